/- The contracts of the document's soft and Split. -/
import Derived.Test.YtnongbbhpkmdjaaFldR
namespace Go.Proofs.Ytnongbbhpkmdjaa
open Go.RowKit
set_option linter.unusedVariables false
variable {X : Option (Nat × Array Value)}
theorem fbyte_0 (f : FS) (ifs : LB) (c : UInt8) (h : kindP ifs c = 0) : f.byte ifs c = f.add [c] false := by unfold FS.byte; rw [h]; rfl
theorem fbyte_1a (f : FS) (ifs : LB) (c : UInt8) (h : kindP ifs c = 1) (ho : f.op = true) : f.byte ifs c = { f.stop with white := true } := by unfold FS.byte; rw [h]; simp [ho]
theorem fbyte_1b (f : FS) (ifs : LB) (c : UInt8) (h : kindP ifs c = 1) (ho : f.op = false) : f.byte ifs c = f := by unfold FS.byte; rw [h]; simp [ho]
theorem fbyte_2a (f : FS) (ifs : LB) (c : UInt8) (h : kindP ifs c = 2) (ho : f.op = true ∨ f.white = false) : f.byte ifs c = { f.stop with white := false } := by
  unfold FS.byte; rw [h]
  rcases ho with ho | ho
  · simp [ho]
  · cases f.op <;> simp [ho]
theorem fbyte_2b (f : FS) (ifs : LB) (c : UInt8) (h : kindP ifs c = 2) (ho : f.op = false) (hw : f.white = true) : f.byte ifs c = { f with white := false } := by unfold FS.byte; rw [h]; simp [ho, hw]
theorem FAt.setWhite {B g : Nat} {W : World} {f : FS} (H : FAt B W g X f) (b : Bool) : FAt B (W.setCell ⟨g, 3, none⟩ (.bool b)) g X { f with white := b } := by
  obtain ⟨h, H⟩ := H; exact ⟨h, H.setWhite b⟩
set_option maxRecDepth 100000 in
set_option maxHeartbeats 16000000 in
theorem fsoft_any (B g : Nat) (ifs t : LB) (f : FS) (w : World) (hK : f.Le 800000) (ht : t.length ≤ 20000) (hif : ifs.length ≤ 1000) (hB : B ≤ w.heap.size) (H : FAt B w g X f) :
    Calls Try.prog 31 #[.pointer (some ⟨g, 0, none⟩), .string ⟨t.toArray⟩, .string ⟨ifs.toArray⟩] w fun e w' => e = .returned (.tuple #[]) ∧ FAt B w' g X (softF ifs t f) ∧ Below B w w' := by
  have HK := hide hK
  have HH := hide H
  have XK := hide (fun c W => kind_any c ifs (by omega) W)
  clear H hK
  go_enter Try.func31, Try.ntmps31
  go_wp2_with fail
  go_loopw [6] (fun u6 wx => ∃ k : Nat, k ≤ t.length ∧ u6 = .int .i64 (k : Int) ∧ Hid (FAt B wx g X (softF ifs (t.take k) f)) ∧ Hid (Below B w wx)) (fun u6 _ => t.length - (intOf u6).toNat)
  case atStart => exact ⟨0, Nat.zero_le _, rfl, hide (by simpa [softF] using HH.out), hide (Below.refl _ _)⟩
  case round =>
    clear HH
    obtain ⟨k, hk, rfl, HS, HB⟩ := hrel
    have hBw : B ≤ wr.heap.size := by have := HB.out.size; omega
    by_cases hlt : k < t.length
    · obtain ⟨c, hc⟩ : ∃ c, t[k]? = some c := ⟨_, List.getElem?_eq_getElem hlt⟩
      have hix := ix_l t k c hc
      have HN : Hid (softF ifs (t.take (k + 1)) f = (softF ifs (t.take k) f).byte ifs c) := hide (by rw [take_snoc' hc, softF_snoc])
      have hL : (softF ifs (t.take k) f).Le 850000 := (FLe.soft ifs (t.take k) HK.out).up (by have := List.length_take_le' k t; omega)
      have hsl := sl_two t k (k + 1) k ((k : Int) + 1) rfl (by omega) (by omega) (by omega)
      have h1e : (t.drop k).take (k + 1 - k) = [c] := by
        obtain ⟨h1, h2⟩ := List.getElem?_eq_some_iff.1 hc
        rw [Nat.add_sub_cancel_left, List.drop_eq_getElem_cons h1, h2]; rfl
      rw [h1e] at hsl
      have HSL := hide hsl
      have hk1 : (k : Int) < (t.length : Int) := by omega
      have hkw : IntKind.i64.wrap ((k : Int) + 1) = (k : Int) + 1 := by simp [IntKind.wrap, IntKind.bits, IntKind.signed]; omega
      have HKW := hide hkw
      clear hc h1e hsl hkw
      obtain ⟨s1, hs1⟩ : ∃ s1, softF ifs (t.take k) f = s1 := ⟨_, rfl⟩
      rw [hs1] at HS HN hL
      clear hs1
      have HL := hide hL
      clear hL
      have XE := hide (fun W hB h => end_any (X := X) B g s1 W (HL.out.up (by omega)) hB h)
      obtain ⟨h, hS⟩ := HS.out
      obtain ⟨⟨c0, c1, c2, c3⟩, f0, f1, f2, f3⟩ := hS.blk.four
      have hgl := hS.lt
      have hBg := hS.hg
      clear hS
      have XY := hide (XK.out c)
      obtain ⟨op, hop⟩ : ∃ o, s1.op = o := ⟨_, rfl⟩
      obtain ⟨wh, hwh⟩ : ∃ o, s1.white = o := ⟨_, rfl⟩
      rw [hop] at c2
      rw [hwh] at c3
      rcases kind_le ifs c with hkd | hkd | hkd
      · replace HN := hide (HN.out.trans (fbyte_0 s1 ifs c hkd))
        rw [hkd] at XY
        have XA := hide (add_any (X := X) B g s1 [c] false wr (HL.out.up (by omega)) (by simp) hBw HS.out)
        clear hkd c0 c1 c2 c3 f0 f1 f2 f3 hop hwh
        go_wp2_with fail
        refine (XY.out _).mono ?_
        rintro e w' ⟨rfl, rfl⟩
        have hs2 := HSL.out
        have hw2 := HKW.out
        go_wp2_with fail
        refine XA.out.mono ?_
        rintro e w1 ⟨rfl, hS1, hb1⟩
        have HS1 : Hid (FAt B w1 g X (softF ifs (t.take (k + 1)) f)) := hide (by rw [HN.out]; exact hS1)
        have HB1 : Hid (Below B w w1) := hide (HB.out.trans hb1)
        clear hS1 hb1 XA XE HN HS HB HL hw2 hs2
        go_wp2_with fail
        go_roundw
        case rel => exact ⟨k + 1, by omega, by go_num, HS1, HB1⟩
        case measure => simp [intOf]; omega
      · rw [hkd] at XY
        cases op with
        | false =>
          replace HN := hide (HN.out.trans (fbyte_1b s1 ifs c hkd hop))
          have HS1 : Hid (FAt B wr g X (softF ifs (t.take (k + 1)) f)) := hide (by rw [HN.out]; exact HS.out)
          clear hkd hop hwh HN HS XE
          go_wp2_with fail
          refine (XY.out _).mono ?_
          rintro e w' ⟨rfl, rfl⟩
          go_wp2_with fail
          go_roundw
          case rel => exact ⟨k + 1, by omega, by go_num, HS1, HB⟩
          case measure => simp [intOf]; omega
        | true =>
          replace HN := hide (HN.out.trans (fbyte_1a s1 ifs c hkd hop))
          have XE1 := hide (XE.out wr hBw HS.out)
          clear hkd hop hwh HS XE
          go_wp2_with fail
          refine (XY.out _).mono ?_
          rintro e w' ⟨rfl, rfl⟩
          go_wp2_with fail
          refine XE1.out.mono ?_
          rintro e w1 ⟨rfl, hS1, hb1⟩
          have HS2 : Hid (FAt B (w1.setCell ⟨g, 3, none⟩ (.bool true)) g X (softF ifs (t.take (k + 1)) f)) := hide (by rw [HN.out]; exact hS1.setWhite true)
          have HB1 : Hid (Below B w (w1.setCell ⟨g, 3, none⟩ (.bool true))) := hide ((HB.out.trans hb1).setCell (p := ⟨g, 3, none⟩) hBg _)
          obtain ⟨h1, hS1⟩ := hS1
          have hgl1 := hS1.lt
          clear c0 c1 c2 c3 f0 f1 f2 f3
          obtain ⟨⟨c0, c1, c2, c3⟩, f0, f1, f2, f3⟩ := hS1.blk.four
          clear hS1 hb1 XE1 HN HB HL hgl
          go_wp2_with fail
          go_roundw
          case rel => exact ⟨k + 1, by omega, by go_num, HS2, HB1⟩
          case measure => simp [intOf]; omega
      · rw [hkd] at XY
        by_cases hw : op = true ∨ wh = false
        · replace HN := hide (HN.out.trans (fbyte_2a s1 ifs c hkd (by rw [hop, hwh]; exact hw)))
          have XE1 := hide (XE.out wr hBw HS.out)
          clear hkd hop hwh HS XE
          have hway : op = true ∨ (op = false ∧ wh = false) := by
            cases op
            · rcases hw with h | h
              · cases h
              · exact .inr ⟨rfl, h⟩
            · exact .inl rfl
          rcases hway with rfl | ⟨rfl, rfl⟩
          all_goals
            clear hw
            go_wp2_with fail
            refine (XY.out _).mono ?_
            rintro e w' ⟨rfl, rfl⟩
            go_wp2_with fail
            refine XE1.out.mono ?_
            rintro e w1 ⟨rfl, hS1, hb1⟩
            have HS2 : Hid (FAt B (w1.setCell ⟨g, 3, none⟩ (.bool false)) g X (softF ifs (t.take (k + 1)) f)) := hide (by rw [HN.out]; exact hS1.setWhite false)
            have HB1 : Hid (Below B w (w1.setCell ⟨g, 3, none⟩ (.bool false))) := hide ((HB.out.trans hb1).setCell (p := ⟨g, 3, none⟩) hBg _)
            obtain ⟨h1, hS1⟩ := hS1
            have hgl1 := hS1.lt
            clear c0 c1 c2 c3 f0 f1 f2 f3
            obtain ⟨⟨c0, c1, c2, c3⟩, f0, f1, f2, f3⟩ := hS1.blk.four
            clear hS1 hb1 XE1 HN HB HL hgl
            go_wp2_with fail
            go_roundw
            case rel => exact ⟨k + 1, by omega, by go_num, HS2, HB1⟩
            case measure => simp [intOf]; omega
        · have ho : op = false := by cases op; rfl; exact absurd (.inl rfl) hw
          have hwt : wh = true := by cases wh; exact absurd (.inr rfl) hw; rfl
          subst ho hwt
          replace HN := hide (HN.out.trans (fbyte_2b s1 ifs c hkd hop hwh))
          have HS2 : Hid (FAt B (wr.setCell ⟨g, 3, none⟩ (.bool false)) g X (softF ifs (t.take (k + 1)) f)) := hide (by rw [HN.out]; exact HS.out.setWhite false)
          have HB1 : Hid (Below B w (wr.setCell ⟨g, 3, none⟩ (.bool false))) := hide (HB.out.setCell (p := ⟨g, 3, none⟩) hBg _)
          clear hkd hop hwh HS XE HN HB hw
          go_wp2_with fail
          refine (XY.out _).mono ?_
          rintro e w' ⟨rfl, rfl⟩
          go_wp2_with fail
          go_roundw
          case rel => exact ⟨k + 1, by omega, by go_num, HS2, HB1⟩
          case measure => simp [intOf]; omega
    · have hk1 : ¬ (k : Int) < (t.length : Int) := by omega
      have HE : Hid (FAt B wr g X (softF ifs t f)) := hide (by have := HS.out; rwa [List.take_of_length_le (by omega)] at this)
      clear HS
      go_wp2_with fail
      go_end0
      exact ⟨rfl, HE.out, HB.out⟩
theorem FT.spec {B : Nat} {w : World} {g : Nat} {f : FS} {h : Hf} {Y : Option (Nat × Array Value)} (H : FT B w g Y f h) (p : Pc) :
    FT B (w.alloc (.cells #[.string ⟨p.text.toArray⟩, .bool p.quoted, .bool p.soft, .bool p.gap] 35)) g (some (w.heap.size, #[.string ⟨p.text.toArray⟩, .bool p.quoted, .bool p.soft, .bool p.gap])) f h := by
  have H1 := H.alloc (.cells #[.string ⟨p.text.toArray⟩, .bool p.quoted, .bool p.soft, .bool p.gap] 35)
  refine ⟨H1.blk, H1.fo, H1.po, H1.hg, fun x c e => ?_⟩
  injection e with e
  injection e with e1 e2
  subst e1 e2
  refine ⟨Blk.new w 35 _, fun he => ?_⟩
  have := (World.ownsRow.lt H.po _ he.symm).2
  omega
theorem FAt.forget {B : Nat} {w : World} {g : Nat} {f : FS} {Y : Option (Nat × Array Value)} (H : FAt B w g Y f) : FAt B w g none f := by
  obtain ⟨h, H⟩ := H; exact ⟨h, ⟨H.blk, H.fo, H.po, H.hg, fun x c e => by cases e⟩⟩
theorem FAt.box {B : Nat} {w : World} {g : Nat} {f : FS} {x : Nat} {c : Array Value} (H : FAt B w g (some (x, c)) f) : Blk w x 35 c := by
  obtain ⟨h, H⟩ := H; exact (H.ob x c rfl).1
theorem FT0 (w : World) : FT w.heap.size (w.alloc (.cells #[.slice none 0 0, .slice none 0 0, .bool false, .bool false] 48)) w.heap.size none FS0 ⟨none, 0, 0, none, 0, 0⟩ :=
  ⟨Blk.new w 48 _, ⟨[], World.ownsRow_nil _ _ _ _, FdRow.nil _, fun u h => by cases h⟩, World.ownsRow_nil _ _ _ _, Nat.le_refl _, fun x c e => by cases e⟩
set_option maxHeartbeats 16000000 in
set_option maxRecDepth 100000 in
theorem fsplit_any (l : List Pc) (ifs : LB) (A : Option Addr) (n c : Nat) (w : World) (hR : Reads w w.heap.size 4 A n (pvs l)) (hn : n ≤ 10000) (hlen : (txl l).length ≤ 20000) (hif : ifs.length ≤ 1000) :
    Calls Try.prog 10 #[.slice A n c, .string ⟨ifs.toArray⟩] w (SplitRet w (splitP ifs l)) := by
  have hll : l.length = n := by have := hR.1; rw [pvs_length] at this; omega
  have HLL := hide hll
  have HR := hide hR
  have hle : ∀ k, (runF ifs (l.take k) true FS0).Le 100000 := fun k => runF_le ifs l k (by omega) hlen
  have HLE := hide hle
  clear hR hll hle
  have HS0 := hide (FT0 w)
  have HB1 := hide ((Below.refl w.heap.size w).alloc (Nat.le_refl _) (.cells #[.slice none 0 0, .slice none 0 0, .bool false, .bool false] 48))
  go_enter Try.func10, Try.ntmps10
  go_wp2_with fail
  obtain ⟨W0, hW0⟩ : ∃ W, w.alloc (.cells #[.slice none 0 0, .slice none 0 0, .bool false, .bool false] 48) = W := ⟨_, rfl⟩
  obtain ⟨B, hBE⟩ : ∃ B, w.heap.size = B := ⟨_, rfl⟩
  rw [hW0, hBE] at HS0 HB1
  rw [hBE] at HR
  (try rw [hW0])
  (try rw [hBE])
  have HBE := hide hBE
  clear hW0 hBE
  go_loopw [6] (fun u6 wx => ∃ i : Nat, i ≤ n ∧ u6 = .int .i64 i ∧ Hid (Below B w wx) ∧ Hid (FAt B wx B none (runF ifs (l.take i) true FS0))) (fun u6 _ => n - (intOf u6).toNat)
  case atStart => exact ⟨0, Nat.zero_le _, rfl, HB1, hide ⟨_, HS0.out⟩⟩
  case round =>
    clear HB1 HS0
    obtain ⟨i, hi, rfl, HB, HS⟩ := hrel
    have hbw : B < wr.heap.size := by
      obtain ⟨h, H⟩ := HS.out
      exact H.lt
    have hbw' : B ≤ wr.heap.size := Nat.le_of_lt hbw
    by_cases hlt : i < n
    · obtain ⟨p, hp⟩ : ∃ p, l[i]? = some p := ⟨_, List.getElem?_eq_getElem (by have := HLL.out; omega)⟩
      have hpt := txl_mem l p (List.mem_of_getElem? hp)
      obtain ⟨g1, o, rfl, hg, q0, q1, q2, q3⟩ := pc_cells HR.out hp
      have r0 := (HB.out.cell (p := ⟨g1, o + i * 4, none⟩) hg).trans q0
      have r1 := (HB.out.cell (p := ⟨g1, o + i * 4 + 1, none⟩) hg).trans q1
      have r2 := (HB.out.cell (p := ⟨g1, o + i * 4 + 2, none⟩) hg).trans q2
      have r3 := (HB.out.cell (p := ⟨g1, o + i * 4 + 3, none⟩) hg).trans q3
      have hia := fun W => pc_at g1 o n c i (i : Int) rfl hlt W
      have hlt' : (i : Int) < (n : Int) := by omega
      have HTX : Hid (runF ifs (l.take (i + 1)) true FS0 = (runF ifs (l.take i) true FS0).piece ifs (i == 0) p) := hide (by
        rw [take_snoc' hp, runF_snoc]
        congr 1
        cases i with
        | zero => simp
        | succ i =>
          cases l with
          | nil => simp at hp
          | cons a b => simp)
      have hL := HLE.out i
      obtain ⟨s, hs⟩ : ∃ s, runF ifs (l.take i) true FS0 = s := ⟨_, rfl⟩
      rw [hs] at HTX hL HS
      obtain ⟨ff, hff⟩ : ∃ ff, (i == 0) = ff := ⟨_, rfl⟩
      rw [hff] at HTX
      have hib : decide ((0 : Int) < (i : Int)) = !ff := by
        rw [← hff]
        cases i with
        | zero => rfl
        | succ i => simp
      obtain ⟨pt, pq, ps, pg⟩ := p
      dsimp only at r0 r1 r2 r3 hpt
      have hsp : FAt B (wr.alloc (.cells #[.string ⟨pt.toArray⟩, .bool pq, .bool ps, .bool pg] 35)) B (some (wr.heap.size, #[.string ⟨pt.toArray⟩, .bool pq, .bool ps, .bool pg])) s := by
        obtain ⟨h, H⟩ := HS.out
        exact ⟨h, H.spec ⟨pt, pq, ps, pg⟩⟩
      have HBA : Hid (Below B w (wr.alloc (.cells #[.string ⟨pt.toArray⟩, .bool pq, .bool ps, .bool pg] 35))) := hide (HB.out.alloc hbw' _)
      have HSP := hide hsp
      have HL := hide hL
      obtain ⟨hh, hS⟩ := hsp
      obtain ⟨⟨c0, c1, c2, c3⟩, f0, f1, f2, f3⟩ := hS.blk.four
      clear hp q0 q1 q2 q3 hs hL hS
      obtain ⟨op, hop⟩ : ∃ o, s.op = o := ⟨_, rfl⟩
      rw [hop] at c2
      have hi0 : ff = true → i = 0 := fun h => by rw [h] at hff; simpa using hff
      have hi1 : ff = false → 0 < i := fun h => by rw [h] at hff; have : i ≠ 0 := by simpa using hff
                                                   omega
      have hgapway : (pg = false) ∨ (pg = true ∧ op = true) ∨ (pg = true ∧ op = false ∧ ff = false) ∨ (pg = true ∧ op = false ∧ ff = true) := by
        cases pg <;> cases op <;> cases ff <;> simp
      have HOP := hide hop
      have HFF := hide hff
      clear hff hop
      rcases hgapway with rfl | ⟨rfl, rfl⟩ | ⟨rfl, rfl, rfl⟩ | ⟨rfl, rfl, rfl⟩
      · replace HTX : Hid (runF ifs (l.take (i + 1)) true FS0 = s.piece ifs ff ⟨pt, pq, ps, false⟩) := hide HTX.out
        have HE : Hid (∀ t, s.piece ifs ff ⟨t, pq, ps, false⟩ = if pq then s.add t true else if ps then softF ifs t s else if t = [] then s else s.add t false) := hide fun t => rfl
        replace HTX := hide (HTX.out.trans (HE.out pt))
        clear HE
        cases pq with
        | true =>
          go_wp2_with fail
          refine (add_any B B s pt true _ (HL.out.up (by omega)) (by omega) (by first | omega | (simp; omega)) (by exact HSP.out)).mono ?_
          rintro e w5 ⟨rfl, hS5, hb5⟩
          have HS5 : Hid (FAt B w5 B none (runF ifs (l.take (i + 1)) true FS0)) := hide (by rw [HTX.out]; exact hS5.forget)
          have HB5 : Hid (Below B w w5) := hide (HBA.out.trans hb5)
          clear hS5 hb5
          go_wp2_with fail
          go_roundw
          case rel => exact ⟨i + 1, by omega, by go_num, HB5, HS5⟩
          case measure => simp [intOf]; omega
        | false =>
          cases ps with
          | true =>
            go_wp2_with fail
            refine (fsoft_any B B ifs pt s _ (HL.out.up (by omega)) (by omega) (by omega) (by first | omega | (simp; omega)) (by exact HSP.out)).mono ?_
            rintro e w5 ⟨rfl, hS5, hb5⟩
            have HS5 : Hid (FAt B w5 B none (runF ifs (l.take (i + 1)) true FS0)) := hide (by rw [HTX.out]; exact hS5.forget)
            have HB5 : Hid (Below B w w5) := hide (HBA.out.trans hb5)
            clear hS5 hb5
            go_wp2_with fail
            go_roundw
            case rel => exact ⟨i + 1, by omega, by go_num, HB5, HS5⟩
            case measure => simp [intOf]; omega
          | false =>
            by_cases hz : pt = []
            · subst hz
              have HS5 : Hid (FAt B (wr.alloc (.cells #[.string ⟨([] : LB).toArray⟩, .bool false, .bool false, .bool false] 35)) B none (runF ifs (l.take (i + 1)) true FS0)) := hide (by rw [HTX.out]; exact HSP.out.forget)
              have HB5 := hide HBA.out
              go_wp2_with fail
              go_roundw
              case rel => exact ⟨i + 1, by omega, by go_num, HB5, HS5⟩
              case measure => simp [intOf]; omega
            · have hz1 : (pt != []) = true := bne_iff_ne.2 hz
              have hz2 : (pt == []) = false := beq_eq_false_iff_ne.2 hz
              replace HTX : Hid (runF ifs (l.take (i + 1)) true FS0 = s.add pt false) := hide (HTX.out.trans (if_neg hz))
              clear hz
              go_wp2_with fail
              refine (add_any B B s pt false _ (HL.out.up (by omega)) (by omega) (by first | omega | (simp; omega)) (by exact HSP.out)).mono ?_
              rintro e w5 ⟨rfl, hS5, hb5⟩
              have HS5 : Hid (FAt B w5 B none (runF ifs (l.take (i + 1)) true FS0)) := hide (by rw [HTX.out]; exact hS5.forget)
              have HB5 : Hid (Below B w w5) := hide (HBA.out.trans hb5)
              clear hS5 hb5
              go_wp2_with fail
              go_roundw
              case rel => exact ⟨i + 1, by omega, by go_num, HB5, HS5⟩
              case measure => simp [intOf]; omega
      · have HE : Hid (∀ t, s.piece ifs ff ⟨t, pq, ps, true⟩ = if pq then FS.add { s.stop with white := false } t true else if ps then softF ifs t { s.stop with white := false } else if t = [] then { s.stop with white := false } else FS.add { s.stop with white := false } t false) := hide fun t => by
          unfold FS.piece
          have : (if (⟨t, pq, ps, true⟩ : Pc).gap && (s.op || !ff) then ({ s.stop with white := false } : FS) else s) = { s.stop with white := false } := if_pos (by rw [HOP.out]; simp)
          rw [this]
          rfl
        replace HTX := hide (HTX.out.trans (HE.out pt))
        clear HE
        have XG := hide (fun W hB h => end_any (X := some (wr.heap.size, #[.string ⟨pt.toArray⟩, .bool pq, .bool ps, .bool true])) B B s W (HL.out.up (by omega)) hB h)
        have HL2 := hide (FLe.white (FLe.stop HL.out) false)
        obtain ⟨s1, hs1⟩ : ∃ s1, s.stop = s1 := ⟨_, rfl⟩
        rw [hs1] at XG HL2 HTX
        obtain ⟨s2, hs2⟩ : ∃ s2, ({ s1 with white := false } : FS) = s2 := ⟨_, rfl⟩
        rw [hs2] at HL2 HTX
        clear hs1
        skip
        go_wp2_with fail
        refine (XG.out _ (by first | omega | (simp; omega)) (by exact HSP.out)).mono ?_
        rintro e w3 ⟨rfl, hS3, hb3⟩
        have hS4 := hS3.setWhite false
        rw [hs2] at hS4
        have HB4 : Hid (Below B w (w3.setCell ⟨B, 3, none⟩ (.bool false))) := hide ((HBA.out.trans hb3).setCell (p := ⟨B, 3, none⟩) (Nat.le_refl _) _)
        have hbw3 : B ≤ w3.heap.size := by have := hb3.size; simp at this; omega
        clear c0 c1 c2 c3 f0 f1 f2 f3
        obtain ⟨⟨x0, x1, x2, x3⟩, y0, y1, y2, y3⟩ := hS3.box.four
        have hxl := hS3.box.lt
        obtain ⟨h3, hS3'⟩ := hS3
        obtain ⟨⟨c0, c1, c2, c3⟩, f0, f1, f2, f3⟩ := hS3'.blk.four
        have hgl3 := hS3'.lt
        have HS4 := hide hS4
        clear hS3' hs2 hS4 hb3 HSP HBA XG
        cases pq with
        | true =>
          go_wp2_with fail
          refine (add_any B B s2 pt true _ (HL2.out.up (by omega)) (by omega) (by first | omega | (simp; omega)) (by exact HS4.out)).mono ?_
          rintro e w5 ⟨rfl, hS5, hb5⟩
          have HS5 : Hid (FAt B w5 B none (runF ifs (l.take (i + 1)) true FS0)) := hide (by rw [HTX.out]; exact hS5.forget)
          have HB5 : Hid (Below B w w5) := hide (HB4.out.trans hb5)
          clear hS5 hb5
          go_wp2_with fail
          go_roundw
          case rel => exact ⟨i + 1, by omega, by go_num, HB5, HS5⟩
          case measure => simp [intOf]; omega
        | false =>
          cases ps with
          | true =>
            go_wp2_with fail
            refine (fsoft_any B B ifs pt s2 _ (HL2.out.up (by omega)) (by omega) (by omega) (by first | omega | (simp; omega)) (by exact HS4.out)).mono ?_
            rintro e w5 ⟨rfl, hS5, hb5⟩
            have HS5 : Hid (FAt B w5 B none (runF ifs (l.take (i + 1)) true FS0)) := hide (by rw [HTX.out]; exact hS5.forget)
            have HB5 : Hid (Below B w w5) := hide (HB4.out.trans hb5)
            clear hS5 hb5
            go_wp2_with fail
            go_roundw
            case rel => exact ⟨i + 1, by omega, by go_num, HB5, HS5⟩
            case measure => simp [intOf]; omega
          | false =>
            by_cases hz : pt = []
            · subst hz
              have HS5 : Hid (FAt B (w3.setCell ⟨B, 3, none⟩ (.bool false)) B none (runF ifs (l.take (i + 1)) true FS0)) := hide (by rw [HTX.out]; exact HS4.out.forget)
              have HB5 := hide HB4.out
              go_wp2_with fail
              go_roundw
              case rel => exact ⟨i + 1, by omega, by go_num, HB5, HS5⟩
              case measure => simp [intOf]; omega
            · have hz1 : (pt != []) = true := bne_iff_ne.2 hz
              have hz2 : (pt == []) = false := beq_eq_false_iff_ne.2 hz
              replace HTX : Hid (runF ifs (l.take (i + 1)) true FS0 = s2.add pt false) := hide (HTX.out.trans (if_neg hz))
              clear hz
              go_wp2_with fail
              refine (add_any B B s2 pt false _ (HL2.out.up (by omega)) (by omega) (by first | omega | (simp; omega)) (by exact HS4.out)).mono ?_
              rintro e w5 ⟨rfl, hS5, hb5⟩
              have HS5 : Hid (FAt B w5 B none (runF ifs (l.take (i + 1)) true FS0)) := hide (by rw [HTX.out]; exact hS5.forget)
              have HB5 : Hid (Below B w w5) := hide (HB4.out.trans hb5)
              clear hS5 hb5
              go_wp2_with fail
              go_roundw
              case rel => exact ⟨i + 1, by omega, by go_num, HB5, HS5⟩
              case measure => simp [intOf]; omega
      · have HE : Hid (∀ t, s.piece ifs false ⟨t, pq, ps, true⟩ = if pq then FS.add { s.stop with white := false } t true else if ps then softF ifs t { s.stop with white := false } else if t = [] then { s.stop with white := false } else FS.add { s.stop with white := false } t false) := hide fun t => by
          unfold FS.piece
          have : (if (⟨t, pq, ps, true⟩ : Pc).gap && (s.op || !false) then ({ s.stop with white := false } : FS) else s) = { s.stop with white := false } := if_pos (by rw [HOP.out]; simp)
          rw [this]
          rfl
        replace HTX := hide (HTX.out.trans (HE.out pt))
        clear HE
        have XG := hide (fun W hB h => end_any (X := some (wr.heap.size, #[.string ⟨pt.toArray⟩, .bool pq, .bool ps, .bool true])) B B s W (HL.out.up (by omega)) hB h)
        have HL2 := hide (FLe.white (FLe.stop HL.out) false)
        obtain ⟨s1, hs1⟩ : ∃ s1, s.stop = s1 := ⟨_, rfl⟩
        rw [hs1] at XG HL2 HTX
        obtain ⟨s2, hs2⟩ : ∃ s2, ({ s1 with white := false } : FS) = s2 := ⟨_, rfl⟩
        rw [hs2] at HL2 HTX
        clear hs1
        have hii := hi1 rfl
        have hi3 : (0 : Int) < (i : Int) := by omega
        go_wp2_with fail
        refine (XG.out _ (by first | omega | (simp; omega)) (by exact HSP.out)).mono ?_
        rintro e w3 ⟨rfl, hS3, hb3⟩
        have hS4 := hS3.setWhite false
        rw [hs2] at hS4
        have HB4 : Hid (Below B w (w3.setCell ⟨B, 3, none⟩ (.bool false))) := hide ((HBA.out.trans hb3).setCell (p := ⟨B, 3, none⟩) (Nat.le_refl _) _)
        have hbw3 : B ≤ w3.heap.size := by have := hb3.size; simp at this; omega
        clear c0 c1 c2 c3 f0 f1 f2 f3
        obtain ⟨⟨x0, x1, x2, x3⟩, y0, y1, y2, y3⟩ := hS3.box.four
        have hxl := hS3.box.lt
        obtain ⟨h3, hS3'⟩ := hS3
        obtain ⟨⟨c0, c1, c2, c3⟩, f0, f1, f2, f3⟩ := hS3'.blk.four
        have hgl3 := hS3'.lt
        have HS4 := hide hS4
        clear hS3' hs2 hS4 hb3 HSP HBA XG
        cases pq with
        | true =>
          go_wp2_with fail
          refine (add_any B B s2 pt true _ (HL2.out.up (by omega)) (by omega) (by first | omega | (simp; omega)) (by exact HS4.out)).mono ?_
          rintro e w5 ⟨rfl, hS5, hb5⟩
          have HS5 : Hid (FAt B w5 B none (runF ifs (l.take (i + 1)) true FS0)) := hide (by rw [HTX.out]; exact hS5.forget)
          have HB5 : Hid (Below B w w5) := hide (HB4.out.trans hb5)
          clear hS5 hb5
          go_wp2_with fail
          go_roundw
          case rel => exact ⟨i + 1, by omega, by go_num, HB5, HS5⟩
          case measure => simp [intOf]; omega
        | false =>
          cases ps with
          | true =>
            go_wp2_with fail
            refine (fsoft_any B B ifs pt s2 _ (HL2.out.up (by omega)) (by omega) (by omega) (by first | omega | (simp; omega)) (by exact HS4.out)).mono ?_
            rintro e w5 ⟨rfl, hS5, hb5⟩
            have HS5 : Hid (FAt B w5 B none (runF ifs (l.take (i + 1)) true FS0)) := hide (by rw [HTX.out]; exact hS5.forget)
            have HB5 : Hid (Below B w w5) := hide (HB4.out.trans hb5)
            clear hS5 hb5
            go_wp2_with fail
            go_roundw
            case rel => exact ⟨i + 1, by omega, by go_num, HB5, HS5⟩
            case measure => simp [intOf]; omega
          | false =>
            by_cases hz : pt = []
            · subst hz
              have HS5 : Hid (FAt B (w3.setCell ⟨B, 3, none⟩ (.bool false)) B none (runF ifs (l.take (i + 1)) true FS0)) := hide (by rw [HTX.out]; exact HS4.out.forget)
              have HB5 := hide HB4.out
              go_wp2_with fail
              go_roundw
              case rel => exact ⟨i + 1, by omega, by go_num, HB5, HS5⟩
              case measure => simp [intOf]; omega
            · have hz1 : (pt != []) = true := bne_iff_ne.2 hz
              have hz2 : (pt == []) = false := beq_eq_false_iff_ne.2 hz
              replace HTX : Hid (runF ifs (l.take (i + 1)) true FS0 = s2.add pt false) := hide (HTX.out.trans (if_neg hz))
              clear hz
              go_wp2_with fail
              refine (add_any B B s2 pt false _ (HL2.out.up (by omega)) (by omega) (by first | omega | (simp; omega)) (by exact HS4.out)).mono ?_
              rintro e w5 ⟨rfl, hS5, hb5⟩
              have HS5 : Hid (FAt B w5 B none (runF ifs (l.take (i + 1)) true FS0)) := hide (by rw [HTX.out]; exact hS5.forget)
              have HB5 : Hid (Below B w w5) := hide (HB4.out.trans hb5)
              clear hS5 hb5
              go_wp2_with fail
              go_roundw
              case rel => exact ⟨i + 1, by omega, by go_num, HB5, HS5⟩
              case measure => simp [intOf]; omega
      · have hii := hi0 rfl
        have hi3 : ¬ (0 : Int) < (i : Int) := by omega
        have hi4 : decide ((0 : Int) < (i : Int)) = false := decide_eq_false hi3
        have HE : Hid (∀ t, s.piece ifs true ⟨t, pq, ps, true⟩ = if pq then s.add t true else if ps then softF ifs t s else if t = [] then s else s.add t false) := hide fun t => by
          unfold FS.piece
          have : (if (⟨t, pq, ps, true⟩ : Pc).gap && (s.op || !true) then ({ s.stop with white := false } : FS) else s) = s := if_neg (by rw [HOP.out]; simp)
          rw [this]
          rfl
        replace HTX := hide (HTX.out.trans (HE.out pt))
        have HII := hide hii
        clear HE hii hi0 hi1
        cases pq with
        | true =>
          go_wp2_with fail
          refine (add_any B B s pt true _ (HL.out.up (by omega)) (by omega) (by first | omega | (simp; omega)) (by exact HSP.out)).mono ?_
          rintro e w5 ⟨rfl, hS5, hb5⟩
          have HS5 : Hid (FAt B w5 B none (runF ifs (l.take (i + 1)) true FS0)) := hide (by rw [HTX.out]; exact hS5.forget)
          have HB5 : Hid (Below B w w5) := hide (HBA.out.trans hb5)
          clear hS5 hb5
          go_wp2_with fail
          go_roundw
          case rel => exact ⟨i + 1, by omega, by go_num, HB5, HS5⟩
          case measure => simp [intOf]; omega
        | false =>
          cases ps with
          | true =>
            go_wp2_with fail
            refine (fsoft_any B B ifs pt s _ (HL.out.up (by omega)) (by omega) (by omega) (by first | omega | (simp; omega)) (by exact HSP.out)).mono ?_
            rintro e w5 ⟨rfl, hS5, hb5⟩
            have HS5 : Hid (FAt B w5 B none (runF ifs (l.take (i + 1)) true FS0)) := hide (by rw [HTX.out]; exact hS5.forget)
            have HB5 : Hid (Below B w w5) := hide (HBA.out.trans hb5)
            clear hS5 hb5
            go_wp2_with fail
            go_roundw
            case rel => exact ⟨i + 1, by omega, by go_num, HB5, HS5⟩
            case measure => simp [intOf]; omega
          | false =>
            by_cases hz : pt = []
            · subst hz
              have HS5 : Hid (FAt B (wr.alloc (.cells #[.string ⟨([] : LB).toArray⟩, .bool false, .bool false, .bool true] 35)) B none (runF ifs (l.take (i + 1)) true FS0)) := hide (by rw [HTX.out]; exact HSP.out.forget)
              have HB5 := hide HBA.out
              go_wp2_with fail
              go_roundw
              case rel => exact ⟨i + 1, by omega, by go_num, HB5, HS5⟩
              case measure => simp [intOf]; omega
            · have hz1 : (pt != []) = true := bne_iff_ne.2 hz
              have hz2 : (pt == []) = false := beq_eq_false_iff_ne.2 hz
              replace HTX : Hid (runF ifs (l.take (i + 1)) true FS0 = s.add pt false) := hide (HTX.out.trans (if_neg hz))
              clear hz
              go_wp2_with fail
              refine (add_any B B s pt false _ (HL.out.up (by omega)) (by omega) (by first | omega | (simp; omega)) (by exact HSP.out)).mono ?_
              rintro e w5 ⟨rfl, hS5, hb5⟩
              have HS5 : Hid (FAt B w5 B none (runF ifs (l.take (i + 1)) true FS0)) := hide (by rw [HTX.out]; exact hS5.forget)
              have HB5 : Hid (Below B w w5) := hide (HBA.out.trans hb5)
              clear hS5 hb5
              go_wp2_with fail
              go_roundw
              case rel => exact ⟨i + 1, by omega, by go_num, HB5, HS5⟩
              case measure => simp [intOf]; omega
    · have hlt' : ¬ (i : Int) < (n : Int) := by omega
      have HE0 : Hid (splitP ifs l = (splitF ifs l true FS0).out) := hide (split_eq ifs l).symm
      have HE : Hid (splitF ifs l true FS0 = if (runF ifs (l.take i) true FS0).op then (runF ifs (l.take i) true FS0).stop else runF ifs (l.take i) true FS0) := hide (by
        rw [List.take_of_length_le (by have := HLL.out; omega)]
        exact splitF_run ifs l true FS0)
      have XC := hide (end_any (X := none) B B (runF ifs (l.take i) true FS0) wr ((HLE.out i).up (by omega)) hbw' HS.out)
      obtain ⟨s, hs⟩ : ∃ s, runF ifs (l.take i) true FS0 = s := ⟨_, rfl⟩
      rw [hs] at HS HE XC
      obtain ⟨h, H⟩ := HS.out
      obtain ⟨⟨c0, c1, c2, c3⟩, f0, f1, f2, f3⟩ := H.blk.four
      have fin : ∀ (W : World) (s2 : FS) (h2 : Hf), FT B W B none s2 h2 → Hid (Fo B W h2.O h2.no h2.co s2.out none) := fun W s2 h2 H2 => hide (by
        obtain ⟨vs, a, b, d⟩ := H2.fo
        exact ⟨vs, a, b, d.some_none⟩)
      have FIN := hide fin
      clear fin
      obtain ⟨op, hop⟩ : ∃ o, s.op = o := ⟨_, rfl⟩
      rw [hop] at c2
      cases op with
      | false =>
        have HF := FIN.out _ _ _ H
        have HE2 : Hid (splitP ifs l = s.out) := hide (by rw [HE0.out, HE.out, if_neg (by rw [hop]; decide)])
        clear H HE HE0 XC FIN hop hs
        go_wp2_with fail
        go_ret
        refine ⟨h.O, h.no, h.co, rfl, ?_, ?_⟩
        · rw [HE2.out, HBE.out]; exact HF.out
        · rw [HBE.out]; exact HB.out
      | true =>
        have HE2 : Hid (splitP ifs l = s.stop.out) := hide (by rw [HE0.out, HE.out, if_pos hop])
        clear H HE HE0 hop hs
        obtain ⟨s1, hs1⟩ : ∃ s1, s.stop = s1 := ⟨_, rfl⟩
        rw [hs1] at XC HE2
        clear hs1
        go_wp2_with fail
        refine XC.out.mono ?_
        rintro e w2 ⟨rfl, hS2, hb2⟩
        have HB2 : Hid (Below B w w2) := hide (HB.out.trans hb2)
        obtain ⟨h2, H2⟩ := hS2
        have HF := FIN.out _ _ _ H2
        clear c0 c1 c2 c3 f0 f1 f2 f3
        obtain ⟨⟨c0, c1, c2, c3⟩, f0, f1, f2, f3⟩ := H2.blk.four
        clear H2 hb2 FIN XC
        go_wp2_with fail
        go_ret
        refine ⟨h2.O, h2.no, h2.co, rfl, ?_, ?_⟩
        · rw [HE2.out, HBE.out]; exact HF.out
        · rw [HBE.out]; exact HB2.out
end Go.Proofs.Ytnongbbhpkmdjaa
