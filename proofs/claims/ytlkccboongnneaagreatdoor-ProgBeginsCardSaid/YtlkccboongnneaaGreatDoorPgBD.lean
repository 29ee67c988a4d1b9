/- The document's Few. -/
import Derived.Test.YtlkccboongnneaaGreatDoorPgBC
import Derived.Test.YtlkccboongnneaaGreatDoorPgBB
namespace Go.Proofs.YtlkccboongnneaaGreatDoor
open Go.RowKit
set_option linter.unusedVariables false
def FB (p : PR) : Prop := p.args.length ≤ 40 ∧ p.env.length ≤ 60 ∧ p.fds.length ≤ 10 ∧ p.buf.length ≤ 2000 ∧ p.prog.length ≤ 300 ∧ (∀ x ∈ p.args, x.length ≤ 600) ∧ (∀ x ∈ p.env, x.length ≤ 600)
def FewEnd (w : World) (p : PR) (e : Ending) (w' : World) : Prop := ∃ f, e = .returned (.bool f) ∧ (f = true → FB p) ∧ Below w.heap.size w w'
theorem FewEnd.no {w : World} {p : PR} {e : Ending} {w' : World} (h : e = .returned (.bool false)) (hb : Below w.heap.size w w') : FewEnd w p e w' := ⟨false, h, (fun h => by cases h), hb⟩
theorem FewEnd.yes {w : World} {p : PR} {e : Ending} {w' : World} (h : e = .returned (.bool true)) (hp : FB p) (hb : Below w.heap.size w w') : FewEnd w p e w' := ⟨true, h, fun _ => hp, hb⟩
set_option maxRecDepth 100000 in
set_option maxHeartbeats 4000000 in
theorem few14_any (w : World) : Calls Tryz.prog 27 #[.agg #[.slice none 0 0]] w fun e w' => e = .returned (.bool true) ∧ Below w.heap.size w w' := by
  have HX : Hid (Blk (w.alloc (.cells #[.slice none 0 0] 47)) w.heap.size 47 #[.slice none 0 0]) := hide (Blk.new w _ _)
  have HB : Hid (Below w.heap.size w (w.alloc (.cells #[.slice none 0 0] 47))) := hide (on_alloc _ _)
  go_enter Tryz.func27, Tryz.ntmps27
  go_wp2_with fail
  obtain ⟨W1, hW1⟩ : ∃ W, w.alloc (.cells #[.slice none 0 0] 47) = W := ⟨_, rfl⟩
  rw [hW1] at HX HB
  go_loopw [3, 4] (fun u3 u4 wx => u3 = .int .i64 0 ∧ u4 = .int .i64 0 ∧ W1 = wx) (fun _ _ _ => 0)
  case atStart => exact ⟨rfl, rfl, by rw [hW1]⟩
  case round =>
    obtain ⟨rfl, rfl, rfl⟩ := hrel
    clear hW1
    have c0 := HX.out.cell 0
    simp only [List.getElem?_toArray, List.getElem?_cons_zero] at c0
    go_wp2_with fail
    go_ret
    exact ⟨rfl, HB.out⟩
theorem nine {w : World} {g : Nat} {t : TypeId} {a b c d e f x y z : Value} (H : Blk w g t #[a, b, c, d, e, f, x, y, z]) :
    w.cell? ⟨g, 0, none⟩ = some a ∧ w.cell? ⟨g, 1, none⟩ = some b ∧ w.cell? ⟨g, 2, none⟩ = some c ∧ w.cell? ⟨g, 3, none⟩ = some d ∧ w.cell? ⟨g, 4, none⟩ = some e ∧ w.cell? ⟨g, 5, none⟩ = some f ∧ w.cell? ⟨g, 6, none⟩ = some x ∧ w.cell? ⟨g, 7, none⟩ = some y ∧ w.cell? ⟨g, 8, none⟩ = some z :=
  ⟨H.cell 0, H.cell 1, H.cell 2, H.cell 3, H.cell 4, H.cell 5, H.cell 6, H.cell 7, H.cell 8⟩
set_option maxRecDepth 100000 in
set_option maxHeartbeats 16000000 in
theorem few17_any (p : PR) (s : PS) (g : Nat) (w : World) (hG : Blk w g 26 #[Value.int .i64 p.pid, .string ⟨p.prog.toArray⟩, .slice s.A s.an s.ac, .slice s.E s.en s.ec, .slice s.F s.fn s.fc, .bool p.done, .int .i64 p.status, .int .i64 p.phase, .int .i64 p.count, .slice s.D s.dn s.dc]) (hI : InP w w.heap.size p s) :
    Calls Tryz.prog 19 #[.agg #[.slice none 0 0, .slice none 0 0, .slice none 0 0, .slice none 0 0, .slice (some ⟨g, 0, none⟩) 1 1, .slice none 0 0, .slice none 0 0, .slice none 0 0, .int .i64 0]] w (FewEnd w p) := by
  have HK1 : Hid (Blk (w.alloc (.cells #[.slice none 0 0, .slice none 0 0, .slice none 0 0, .slice none 0 0, .slice (some ⟨g, 0, none⟩) 1 1, .slice none 0 0, .slice none 0 0, .slice none 0 0, .int .i64 0] 51)) w.heap.size 51 #[.slice none 0 0, .slice none 0 0, .slice none 0 0, .slice none 0 0, .slice (some ⟨g, 0, none⟩) 1 1, .slice none 0 0, .slice none 0 0, .slice none 0 0, .int .i64 0]) := hide (Blk.new w _ _)
  have HG1 := hide (hG.alloc (.cells #[.slice none 0 0, .slice none 0 0, .slice none 0 0, .slice none 0 0, .slice (some ⟨g, 0, none⟩) 1 1, .slice none 0 0, .slice none 0 0, .slice none 0 0, .int .i64 0] 51))
  have HI1 := hide (in_on hI (on_alloc w (.cells #[.slice none 0 0, .slice none 0 0, .slice none 0 0, .slice none 0 0, .slice (some ⟨g, 0, none⟩) 1 1, .slice none 0 0, .slice none 0 0, .slice none 0 0, .int .i64 0] 51)))
  have HB1 : Hid (Below w.heap.size w (w.alloc (.cells #[.slice none 0 0, .slice none 0 0, .slice none 0 0, .slice none 0 0, .slice (some ⟨g, 0, none⟩) 1 1, .slice none 0 0, .slice none 0 0, .slice none 0 0, .int .i64 0] 51))) := hide (on_alloc _ _)
  have hgl : g < w.heap.size := hG.lt
  clear hG hI
  go_enter Tryz.func19, Tryz.ntmps19
  go_wp2_with fail
  refine (few14_any _).mono ?_
  rintro e w2 ⟨rfl, hb⟩
  have HK2 := hide (HK1.out.below hb HK1.out.lt)
  have HG2 := hide (HG1.out.below hb HG1.out.lt)
  have HI2 := hide (in_on HI1.out hb)
  have HB2 := hide (HB1.out.trans (hb.mono HB1.out.size))
  clear hb HK1 HG1 HI1 HB1
  obtain ⟨k0, k1, k2, k3, k4, k5, k6, k7, k8⟩ := nine HK2.out
  go_wp2_with fail
  go_loopw [3] (fun u3 wx => u3 = .int .i64 0 ∧ w2 = wx) (fun _ _ => 0)
  case atStart => exact ⟨rfl, rfl⟩
  case round =>
    obtain ⟨rfl, rfl⟩ := hrel
    go_wp2_with fail
    clear k0 k1 k2 k3 k4 k5 k6 k7 k8
    go_loopw [4] (fun u4 wx => (u4 = .int .i64 0 ∧ Hid True ∧ Hid (Blk wx g 26 #[Value.int .i64 p.pid, .string ⟨p.prog.toArray⟩, .slice s.A s.an s.ac, .slice s.E s.en s.ec, .slice s.F s.fn s.fc, .bool p.done, .int .i64 p.status, .int .i64 p.phase, .int .i64 p.count, .slice s.D s.dn s.dc]) ∧ Hid (Blk wx w.heap.size 51 #[.slice none 0 0, .slice none 0 0, .slice none 0 0, .slice none 0 0, .slice (some ⟨g, 0, none⟩) 1 1, .slice none 0 0, .slice none 0 0, .slice none 0 0, .int .i64 0]) ∧ Hid (InP wx wx.heap.size p s) ∧ Hid (Below w.heap.size w wx)) ∨ (u4 = .int .i64 1 ∧ Hid (FB p) ∧ Hid (Blk wx g 26 #[Value.int .i64 p.pid, .string ⟨p.prog.toArray⟩, .slice s.A s.an s.ac, .slice s.E s.en s.ec, .slice s.F s.fn s.fc, .bool p.done, .int .i64 p.status, .int .i64 p.phase, .int .i64 p.count, .slice s.D s.dn s.dc]) ∧ Hid (Blk wx w.heap.size 51 #[.slice none 0 0, .slice none 0 0, .slice none 0 0, .slice none 0 0, .slice (some ⟨g, 0, none⟩) 1 1, .slice none 0 0, .slice none 0 0, .slice none 0 0, .int .i64 0]) ∧ Hid (InP wx wx.heap.size p s) ∧ Hid (Below w.heap.size w wx))) (fun i _ => 1 - (intOf i).toNat)
    case atStart => exact .inl ⟨rfl, hide trivial, HG2, HK2, HI2, HB2⟩
    case round =>
      clear HG2 HK2 HI2 HB2
      rcases hrel with ⟨rfl, -, HG, HKK, HI, HB⟩ | ⟨rfl, HF, HG, HKK, HI, HB⟩
      · obtain ⟨k0, k1, k2, k3, k4, k5, k6, k7, k8⟩ := nine HKK.out
        obtain ⟨⟨d0, d1, d2, d3, d4, d5, d6, d7, d8, d9⟩, -⟩ := ten HG.out
        have hgr : g < wr.heap.size := HG.out.lt
        have hwr : w.heap.size < wr.heap.size := HKK.out.lt
        have HBXS : Hid (Blk (wr.alloc (.cells #[Value.int .i64 p.pid, .string ⟨p.prog.toArray⟩, .slice s.A s.an s.ac, .slice s.E s.en s.ec, .slice s.F s.fn s.fc, .bool p.done, .int .i64 p.status, .int .i64 p.phase, .int .i64 p.count, .slice s.D s.dn s.dc] 26)) wr.heap.size 26 #[Value.int .i64 p.pid, .string ⟨p.prog.toArray⟩, .slice s.A s.an s.ac, .slice s.E s.en s.ec, .slice s.F s.fn s.fc, .bool p.done, .int .i64 p.status, .int .i64 p.phase, .int .i64 p.count, .slice s.D s.dn s.dc]) := hide (Blk.new wr _ _)
        have HGW := hide (HG.out.alloc (.cells #[Value.int .i64 p.pid, .string ⟨p.prog.toArray⟩, .slice s.A s.an s.ac, .slice s.E s.en s.ec, .slice s.F s.fn s.fc, .bool p.done, .int .i64 p.status, .int .i64 p.phase, .int .i64 p.count, .slice s.D s.dn s.dc] 26))
        have HKW := hide (HKK.out.alloc (.cells #[Value.int .i64 p.pid, .string ⟨p.prog.toArray⟩, .slice s.A s.an s.ac, .slice s.E s.en s.ec, .slice s.F s.fn s.fc, .bool p.done, .int .i64 p.status, .int .i64 p.phase, .int .i64 p.count, .slice s.D s.dn s.dc] 26))
        have HIW := hide (in_on HI.out (on_alloc wr (.cells #[Value.int .i64 p.pid, .string ⟨p.prog.toArray⟩, .slice s.A s.an s.ac, .slice s.E s.en s.ec, .slice s.F s.fn s.fc, .bool p.done, .int .i64 p.status, .int .i64 p.phase, .int .i64 p.count, .slice s.D s.dn s.dc] 26)))
        have HBW := hide (HB.out.alloc HB.out.size (.cells #[Value.int .i64 p.pid, .string ⟨p.prog.toArray⟩, .slice s.A s.an s.ac, .slice s.E s.en s.ec, .slice s.F s.fn s.fc, .bool p.done, .int .i64 p.status, .int .i64 p.phase, .int .i64 p.count, .slice s.D s.dn s.dc] 26))
        have l4 : p.buf.length = s.dn := by have := HI.out.d.1; simp [bv] at this; exact this
        clear l4
        by_cases h1 : s.an ≤ 40
        · have h1b : ¬ ((40 : Int) < (s.an : Int)) := by omega
          by_cases h2 : s.en ≤ 60
          · have h2b : ¬ ((60 : Int) < (s.en : Int)) := by omega
            by_cases h3 : s.fn ≤ 10
            · have h3b : ¬ ((10 : Int) < (s.fn : Int)) := by omega
              by_cases h4 : s.dn ≤ 2000
              · have h4b : ¬ ((2000 : Int) < (s.dn : Int)) := by omega
                by_cases h5 : p.prog.length ≤ 300
                · have h5b : ¬ ((300 : Int) < (p.prog.length : Int)) := by omega
                  clear HG HKK HI HB
                  go_wp2_with fail
                  clear k0 k1 k2 k3 k4 k5 k6 k7 k8 d0 d1 d2 d3 d4 d5 d6 d7 d8 d9
                  obtain ⟨WC, hWC⟩ : ∃ W, wr.alloc (.cells #[Value.int .i64 p.pid, .string ⟨p.prog.toArray⟩, .slice s.A s.an s.ac, .slice s.E s.en s.ec, .slice s.F s.fn s.fc, .bool p.done, .int .i64 p.status, .int .i64 p.phase, .int .i64 p.count, .slice s.D s.dn s.dc] 26) = W := ⟨_, rfl⟩
                  rw [hWC] at HBXS HGW HKW HIW HBW ⊢
                  clear hWC
                  obtain ⟨⟨c0, c1, c2, c3, c4, c5, c6, c7, c8, c9⟩, -⟩ := ten HBXS.out
                  go_loopw [6] (fun u wx => ∃ (k : Nat), k ≤ s.an ∧ u = .int .i64 (k : Int) ∧ Hid (∀ j x, j < k → p.args[j]? = some x → x.length ≤ 600) ∧ WC = wx) (fun i _ => s.an - (intOf i).toNat)
                  case atStart => exact ⟨0, Nat.zero_le _, rfl, hide (fun j x hj => absurd hj (by omega)), rfl⟩
                  case round =>
                    obtain ⟨k, hk, rfl, HK, rfl⟩ := hrel
                    by_cases hkn : k = s.an
                    · have hlt : ¬ ((k : Int) < (s.an : Int)) := by omega
                      have HKN := hide hkn
                      have HALL : Hid (∀ x ∈ p.args, x.length ≤ 600) := hide (by
                        intro x hx
                        obtain ⟨j, hj⟩ := List.mem_iff_getElem?.1 hx
                        have hjl : j < p.args.length := (List.getElem?_eq_some_iff.1 hj).1
                        exact HK.out j x (by have := HKN.out; have := rd_lenS HIW.out.a; omega) hj)
                      clear hkn HK hk
                      have HALL1 := HALL
                      clear c0 c1 c2 c3 c4 c5 c6 c7 c8 c9
                      obtain ⟨⟨c0, c1, c2, c3, c4, c5, c6, c7, c8, c9⟩, -⟩ := ten HBXS.out
                      clear HALL
                      go_wp2_with fail
                      go_loopw [7] (fun u wx => ∃ (k : Nat), k ≤ s.en ∧ u = .int .i64 (k : Int) ∧ Hid (∀ j x, j < k → p.env[j]? = some x → x.length ≤ 600) ∧ WC = wx) (fun i _ => s.en - (intOf i).toNat)
                      case atStart => exact ⟨0, Nat.zero_le _, rfl, hide (fun j x hj => absurd hj (by omega)), rfl⟩
                      case round =>
                        obtain ⟨k, hk, rfl, HK, rfl⟩ := hrel
                        by_cases hkn : k = s.en
                        · have hlt : ¬ ((k : Int) < (s.en : Int)) := by omega
                          have HKN := hide hkn
                          have HALL : Hid (∀ x ∈ p.env, x.length ≤ 600) := hide (by
                            intro x hx
                            obtain ⟨j, hj⟩ := List.mem_iff_getElem?.1 hx
                            have hjl : j < p.env.length := (List.getElem?_eq_some_iff.1 hj).1
                            exact HK.out j x (by have := HKN.out; have := rd_lenS HIW.out.e; omega) hj)
                          clear hkn HK hk
                          clear c0 c1 c2 c3 c4 c5 c6 c7 c8 c9
                          obtain ⟨⟨c0, c1, c2, c3, c4, c5, c6, c7, c8, c9⟩, -⟩ := ten HBXS.out
                          go_wp2_with fail
                          go_roundw
                          case rel =>
                            have l1 := rd_lenS HIW.out.a
                            have l2 := rd_lenS HIW.out.e
                            have l3 := rd_lenI HIW.out.f
                            have l4 : p.buf.length = s.dn := by have := HIW.out.d.1; simp [bv] at this; exact this
                            exact .inr ⟨by first | rfl | trivial | simp, hide ⟨by omega, by omega, by omega, by omega, h5, HALL1.out, HALL.out⟩, HGW, HKW, HIW, HBW⟩
                          case measure => simp [intOf]
                        · have hlt : (k : Int) < (s.en : Int) := by omega
                          obtain ⟨x, hx⟩ : ∃ x, p.env[k]? = some x := ⟨_, List.getElem?_eq_getElem (by have := rd_lenS HIW.out.e; omega)⟩
                          obtain ⟨b, o, hbo⟩ : ∃ b o, s.E = some ⟨b, o, none⟩ := by
                            obtain ⟨b, o, h, _⟩ := cells_of HIW.out.e (by omega) (by rw [svs_length]; have := rd_lenS HIW.out.e; omega)
                            exact ⟨b, o, h⟩
                          have hrd := HIW.out.e
                          rw [hbo] at hrd
                          have hcx := cell_s hrd hx
                          have HBX := HBXS
                          rw [hbo] at HBX
                          clear c0 c1 c2 c3 c4 c5 c6 c7 c8 c9
                          obtain ⟨⟨c0, c1, c2, c3, c4, c5, c6, c7, c8, c9⟩, -⟩ := ten HBX.out
                          have HX := hide hx
                          clear hrd hx hkn
                          by_cases h6 : x.length ≤ 600
                          · have h6b : ¬ (600 < (x.length : Int)) := by omega
                            clear hbo
                            go_wp2_with fail
                            go_roundw
                            case rel =>
                              refine ⟨k + 1, by omega, by simp, hide (fun j y hj hy => ?_), by first | rfl | trivial⟩
                              rcases Nat.lt_or_ge j k with h | h
                              · exact HK.out j y h hy
                              · rw [show j = k from by omega, HX.out] at hy
                                injection hy with hy
                                rw [← hy]
                                exact h6
                            case measure => simp [intOf]; omega
                          · have h6b : (600 : Int) < (x.length : Int) := by omega
                            clear hbo
                            go_wp2_with fail
                            go_ret
                            exact FewEnd.no rfl HBW.out
                    · have hlt : (k : Int) < (s.an : Int) := by omega
                      obtain ⟨x, hx⟩ : ∃ x, p.args[k]? = some x := ⟨_, List.getElem?_eq_getElem (by have := rd_lenS HIW.out.a; omega)⟩
                      obtain ⟨b, o, hbo⟩ : ∃ b o, s.A = some ⟨b, o, none⟩ := by
                        obtain ⟨b, o, h, _⟩ := cells_of HIW.out.a (by omega) (by rw [svs_length]; have := rd_lenS HIW.out.a; omega)
                        exact ⟨b, o, h⟩
                      have hrd := HIW.out.a
                      rw [hbo] at hrd
                      have hcx := cell_s hrd hx
                      have HBX := HBXS
                      rw [hbo] at HBX
                      clear c0 c1 c2 c3 c4 c5 c6 c7 c8 c9
                      obtain ⟨⟨c0, c1, c2, c3, c4, c5, c6, c7, c8, c9⟩, -⟩ := ten HBX.out
                      have HX := hide hx
                      clear hrd hx hkn
                      by_cases h6 : x.length ≤ 600
                      · have h6b : ¬ (600 < (x.length : Int)) := by omega
                        clear hbo
                        go_wp2_with fail
                        go_roundw
                        case rel =>
                          refine ⟨k + 1, by omega, by simp, hide (fun j y hj hy => ?_), by first | rfl | trivial⟩
                          rcases Nat.lt_or_ge j k with h | h
                          · exact HK.out j y h hy
                          · rw [show j = k from by omega, HX.out] at hy
                            injection hy with hy
                            rw [← hy]
                            exact h6
                        case measure => simp [intOf]; omega
                      · have h6b : (600 : Int) < (x.length : Int) := by omega
                        clear hbo
                        go_wp2_with fail
                        go_ret
                        exact FewEnd.no rfl HBW.out
                · have h5b : (300 : Int) < (p.prog.length : Int) := by omega
                  go_wp2_with fail
                  go_ret
                  exact FewEnd.no rfl HBW.out
              · have h4b : (2000 : Int) < (s.dn : Int) := by omega
                go_wp2_with fail
                go_ret
                exact FewEnd.no rfl HBW.out
            · have h3b : (10 : Int) < (s.fn : Int) := by omega
              go_wp2_with fail
              go_ret
              exact FewEnd.no rfl HBW.out
          · have h2b : (60 : Int) < (s.en : Int) := by omega
            go_wp2_with fail
            go_ret
            exact FewEnd.no rfl HBW.out
        · have h1b : (40 : Int) < (s.an : Int) := by omega
          go_wp2_with fail
          go_ret
          exact FewEnd.no rfl HBW.out
      · obtain ⟨k0, k1, k2, k3, k4, k5, k6, k7, k8⟩ := nine HKK.out
        go_wp2_with fail
        go_ret
        exact FewEnd.yes rfl HF.out HB.out
set_option maxRecDepth 100000 in
set_option maxHeartbeats 8000000 in
theorem few_any (p : PR) (s : PS) (w : World) (hI : InP w w.heap.size p s) :
    Calls Tryz.prog 6 #[.agg #[Value.int .i64 p.pid, .string ⟨p.prog.toArray⟩, .slice s.A s.an s.ac, .slice s.E s.en s.ec, .slice s.F s.fn s.fc, .bool p.done, .int .i64 p.status, .int .i64 p.phase, .int .i64 p.count, .slice s.D s.dn s.dc]] w (FewEnd w p) := by
  have HX : Hid (Blk ((w.alloc (.cells #[Value.int .i64 p.pid, .string ⟨p.prog.toArray⟩, .slice s.A s.an s.ac, .slice s.E s.en s.ec, .slice s.F s.fn s.fc, .bool p.done, .int .i64 p.status, .int .i64 p.phase, .int .i64 p.count, .slice s.D s.dn s.dc] 26)).alloc (.cells #[Value.int .i64 p.pid, .string ⟨p.prog.toArray⟩, .slice s.A s.an s.ac, .slice s.E s.en s.ec, .slice s.F s.fn s.fc, .bool p.done, .int .i64 p.status, .int .i64 p.phase, .int .i64 p.count, .slice s.D s.dn s.dc] 26)) w.heap.size 26 #[Value.int .i64 p.pid, .string ⟨p.prog.toArray⟩, .slice s.A s.an s.ac, .slice s.E s.en s.ec, .slice s.F s.fn s.fc, .bool p.done, .int .i64 p.status, .int .i64 p.phase, .int .i64 p.count, .slice s.D s.dn s.dc]) := hide ((Blk.new w _ _).alloc _)
  have HG : Blk ((w.alloc (.cells #[Value.int .i64 p.pid, .string ⟨p.prog.toArray⟩, .slice s.A s.an s.ac, .slice s.E s.en s.ec, .slice s.F s.fn s.fc, .bool p.done, .int .i64 p.status, .int .i64 p.phase, .int .i64 p.count, .slice s.D s.dn s.dc] 26)).alloc (.cells #[Value.int .i64 p.pid, .string ⟨p.prog.toArray⟩, .slice s.A s.an s.ac, .slice s.E s.en s.ec, .slice s.F s.fn s.fc, .bool p.done, .int .i64 p.status, .int .i64 p.phase, .int .i64 p.count, .slice s.D s.dn s.dc] 26)) (w.heap.size + 1) 26 #[Value.int .i64 p.pid, .string ⟨p.prog.toArray⟩, .slice s.A s.an s.ac, .slice s.E s.en s.ec, .slice s.F s.fn s.fc, .bool p.done, .int .i64 p.status, .int .i64 p.phase, .int .i64 p.count, .slice s.D s.dn s.dc] := by
    have := Blk.new (w.alloc (.cells #[Value.int .i64 p.pid, .string ⟨p.prog.toArray⟩, .slice s.A s.an s.ac, .slice s.E s.en s.ec, .slice s.F s.fn s.fc, .bool p.done, .int .i64 p.status, .int .i64 p.phase, .int .i64 p.count, .slice s.D s.dn s.dc] 26)) 26 #[Value.int .i64 p.pid, .string ⟨p.prog.toArray⟩, .slice s.A s.an s.ac, .slice s.E s.en s.ec, .slice s.F s.fn s.fc, .bool p.done, .int .i64 p.status, .int .i64 p.phase, .int .i64 p.count, .slice s.D s.dn s.dc]
    rw [World.size_alloc] at this
    exact this
  have hB : Below w.heap.size w ((w.alloc (.cells #[Value.int .i64 p.pid, .string ⟨p.prog.toArray⟩, .slice s.A s.an s.ac, .slice s.E s.en s.ec, .slice s.F s.fn s.fc, .bool p.done, .int .i64 p.status, .int .i64 p.phase, .int .i64 p.count, .slice s.D s.dn s.dc] 26)).alloc (.cells #[Value.int .i64 p.pid, .string ⟨p.prog.toArray⟩, .slice s.A s.an s.ac, .slice s.E s.en s.ec, .slice s.F s.fn s.fc, .bool p.done, .int .i64 p.status, .int .i64 p.phase, .int .i64 p.count, .slice s.D s.dn s.dc] 26)) := (on_alloc _ _).alloc (by simp) _
  have X := hide (few17_any p s (w.heap.size + 1) _ HG (in_on (in_on hI (on_alloc _ _)) (on_alloc _ _)))
  have HB := hide hB
  clear HG hB hI
  go_enter Tryz.func6, Tryz.ntmps6
  go_wp2_with fail
  refine X.out.mono ?_
  rintro e w2 ⟨f, rfl, hf, hb⟩
  have HX2 := hide (HX.out.below hb HX.out.lt)
  have HB2 := hide (HB.out.trans (hb.mono HB.out.size))
  have HF := hide hf
  clear hb X HX HB hf
  obtain ⟨⟨c0, c1, c2, c3, c4, c5, c6, c7, c8, c9⟩, -⟩ := ten HX2.out
  cases f with
  | false =>
    go_wp2_with fail
    go_ret
    exact FewEnd.no rfl HB2.out
  | true =>
    have HFB := hide (HF.out rfl)
    clear HF
    by_cases h5 : s.dn ≤ 500
    · have h5b : (s.dn : Int) ≤ 500 := by omega
      go_wp2_with fail
      go_ret
      exact FewEnd.yes (by simp) HFB.out HB2.out
    · have h5b : ¬ ((s.dn : Int) ≤ 500) := by omega
      go_wp2_with fail
      go_ret
      exact FewEnd.no (by simp [h5b]) HB2.out
end Go.Proofs.YtlkccboongnneaaGreatDoor
