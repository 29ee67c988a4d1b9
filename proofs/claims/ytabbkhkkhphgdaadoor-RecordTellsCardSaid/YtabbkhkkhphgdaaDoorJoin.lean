/- The contracts of strings.Builder's WriteString and of strings.Join with a blank (after the shelf's own proofs: its layings fall where copyCheck's panic is cut away). -/
import Derived.Test.YtabbkhkkhphgdaaDoorBuild
import Derived.Lib.AppendStr
import Derived.Lib.Join
namespace Go.Proofs.YtabbkhkkhphgdaaDoor
open Go.RowKit
set_option linter.unusedVariables false
theorem bc_str (p : Bs) : Lib.strCells ⟨p.toArray⟩ = Lib.byteCells p := by simp [Lib.strCells, Lib.byteCells]
theorem bc_append (a b : Bs) : Lib.byteCells (a ++ b) = Lib.byteCells a ++ Lib.byteCells b := by simp [Lib.byteCells]
theorem bc_length (a : Bs) : (Lib.byteCells a).length = a.length := by simp [Lib.byteCells]
theorem putB {B b : Nat} {p v v' : Value} {bs' : List Value} {w : World} (hB : B ≤ b) (hb : w.heap[b]? = some (.cells #[p, v] 72 (0, 0))) (hown : w.ownsRow B 5 1 v' bs'.length bs') : Lib.BuilderAt 72 5 B b p bs' (w.setCell ⟨b, 1, none⟩ v') :=
  Lib.BuilderAt.put hB hb hown (by decide)
set_option maxHeartbeats 2000000 in
set_option maxRecDepth 100000 in
theorem writeString_any (B b : Nat) (bs s : Bs) (w : World) (h : Lib.IsBuilder 72 5 B b (Lib.byteCells bs) w) (hlen : bs.length + s.length ≤ 2000000) (hBw : B ≤ w.heap.size) :
    Calls Tryd.prog 41 #[.pointer (some ⟨b, 0, none⟩), .string ⟨s.toArray⟩] w fun e w' => e = .returned (.tuple #[.int .i64 (s.length : Int), .nilIface]) ∧ (Lib.BuilderAt 72 5 B b (.pointer (some ⟨b, 0, none⟩)) (Lib.byteCells (bs ++ s)) w' ∧ Below B w w') := by
  obtain ⟨i0, hi, hz0, hz1, hz2⟩ := info_parts bByte
  go_enter Tryd.func41, Tryd.ntmps41
  go_wp2_with fail
  refine (copyCheck_any B b (Lib.byteCells bs) _ h).mono ?_
  rintro e w1 ⟨rfl, h1, hb1⟩
  obtain ⟨hB, v, hbk, hown, hne⟩ := h1
  have c0 : w1.cell? ⟨b, 0, none⟩ = some (.pointer (some ⟨b, 0, none⟩)) := by rw [Lib.cell_of_heap hbk]; rfl
  have c1 : w1.cell? ⟨b, 1, none⟩ = some v := by rw [Lib.cell_of_heap hbk]; rfl
  have hlt : b < w1.heap.size := by
    rcases Nat.lt_or_ge b w1.heap.size with h' | h'
    · exact h'
    · simp [Array.getElem?_eq_none h'] at hbk
  have hs1 : B ≤ w1.heap.size := Nat.le_trans hBw hb1.size
  rw [bc_length] at hown
  have HO := hide hown
  have HBK := hide hbk
  have HB1 := hide hb1
  clear hown hbk hb1 h
  go_wp2_with (at_builtin; (refine Lib.wpList_append_own_string _ rfl (.tmp 12) (.tmp 13) 22 9 rfl B 5 i0 Tryd.underlying22 Tryd.underlying9 hi hz0 hz1 hz2 v bs.length (Lib.byteCells bs) rfl (by exact HO.out) ⟨s.toArray⟩ rfl ?d1 ?d2 ?d3 ?_))
  case d1 => show bs.length + s.length ≤ _; unfold maxLen; omega
  case d2 => show bs.length + s.length ≤ _; omega
  case d3 => exact hs1
  intro v' w2 hown' hgrow hnil
  have hb2 : w2.heap[b]? = some (.cells #[.pointer (some ⟨b, 0, none⟩), v] 72 (0, 0)) := by
    rw [hgrow.block b hlt (fun e => hne e.symm)]
    exact HBK.out
  have d0 : w2.cell? ⟨b, 0, none⟩ = some (.pointer (some ⟨b, 0, none⟩)) := by rw [Lib.cell_of_heap hb2]; rfl
  have d1 : w2.cell? ⟨b, 1, none⟩ = some v := by rw [Lib.cell_of_heap hb2]; rfl
  have f1 : w2.frozen? ⟨b, 1, none⟩ = false := Lib.frozen_of_heap hb2 1
  have hlt2 : b < w2.heap.size := Nat.lt_of_lt_of_le hlt hgrow.size
  rw [bc_str, ← bc_append] at hown'
  have hE : Lib.BuilderAt 72 5 B b (.pointer (some ⟨b, 0, none⟩)) (Lib.byteCells (bs ++ s)) (w2.setCell ⟨b, 1, none⟩ v') := putB hB hb2 (by rw [bc_length, List.length_append]; exact hown')
  have hF : Below B w (w2.setCell ⟨b, 1, none⟩ v') := (HB1.out.grown hgrow hs1 (fun k hk => (World.ownsRow.lt HO.out k hk).1)).setCell (p := ⟨b, 1, none⟩) hB _
  obtain ⟨A', c', rfl⟩ := own_slice hown'
  have HE := hide hE
  have HF := hide hF
  clear hE hF hown' hgrow hnil hb2 HBK HB1 HO
  go_wp2_with fail
  refine bodyPost_ret (v := .tuple #[.int .i64 (s.length : Int), .nilIface]) (by simp only [results, Tryd.results41]; go_simp) rfl ⟨rfl, HE.out, HF.out⟩
theorem str_at (g1 o m k q : Nat) (i : Int) (hi : i = (q : Int)) (hq : q < m) (W : World) : (Instr.indexAt 60 (.slice (some ⟨g1, o, none⟩) m k) (.int .i64 i)).run Tryd.prog W = .ok (.pointer (some ⟨g1, o + q, none⟩)) W := by
  subst hi
  have hE : Tryd.prog.elem 60 = 9 := by simp [Program.elem, Tryd.underlying60]
  rw [run_indexAt_slice W 60 ⟨g1, o, none⟩ m k .i64 (q : Int) (slice_ht Tryd.underlying60), if_pos ⟨by omega, by omega⟩]
  rw [hE, run_sizeOf_one _ sizeStr W]
  simp only [Result.andThen, Int.toNat_natCast, at_add, Nat.mul_one]
theorem ssl_from (g o n c : Nat) (q : Nat) (h : Int) (hh : h = (q : Int)) (hq : q ≤ n) (hc : q < c) (W : World) : (Instr.slice 60 (.slice (some ⟨g, o, none⟩) n c) (some (.int .i64 h)) none none).run Tryd.prog W = .ok (.slice (some ⟨g, o + q, none⟩) (n - q) (c - q)) W := by
  subst hh
  rw [run_slice_from 60 9 Tryd.underlying60 sizeStr (some ⟨g, o, none⟩) n c .i64 (q : Int) (by omega) (by omega) W, Int.toNat_natCast, if_neg (by omega)]
  simp [at_add]
theorem cells_of1 {w : World} {B size n : Nat} {A : Option Addr} {xs : List Value} (h : Reads w B size A n xs) (h0 : 0 < n) (hx : 0 < xs.length) : ∃ g o, A = some ⟨g, o, none⟩ ∧ g < B ∧ ∀ j u, xs[j]? = some u → w.cell? ⟨g, o + j, none⟩ = some u := by
  obtain ⟨ad, rfl, hb, hc⟩ := h.2 h0
  have h00 := hc 0 xs[0] (List.getElem?_eq_getElem hx)
  rw [add_zero_] at h00
  have hs : ad = ⟨ad.block, ad.off, none⟩ := by
    obtain ⟨b, o, s⟩ := ad
    cases s with
    | none => rfl
    | some x =>
      unfold World.cell? at h00
      split at h00 <;> simp at h00
  refine ⟨ad.block, ad.off, by rw [← hs], hb, fun j u hj => ?_⟩
  have := hc j u hj
  rw [hs, at_add] at this
  exact this
theorem cells_str {w : World} {B n : Nat} {A : Option Addr} {l : List Bs} (h : Reads w B 1 A n (svs l)) (h0 : 0 < l.length) : ∃ g o, A = some ⟨g, o, none⟩ ∧ g < B ∧ ∀ (j : Nat) (y : Bs), l[j]? = some y → w.cell? ⟨g, o + j, none⟩ = some (.string ⟨y.toArray⟩) := by
  have hn : l.length = n := by have := h.1; rw [svs_length] at this; omega
  obtain ⟨g, o, rfl, hg, hc⟩ := cells_of1 h (by omega) (by rw [svs_length]; omega)
  exact ⟨g, o, rfl, hg, fun j y hj => hc j (sv y) (by simp [svs, hj])⟩
theorem div_big (m : Nat) (h1 : 1 ≤ m) (h2 : m ≤ 100) : ¬ wrap64 (Int.tdiv 9223372036854775807 (m : Int)) ≤ 1 := by
  have e : Int.tdiv 9223372036854775807 (m : Int) = ((9223372036854775807 / m : Nat) : Int) := by
    rw [show (9223372036854775807 : Int) = ((9223372036854775807 : Nat) : Int) from rfl, Int.ofNat_tdiv]
  have l1 : 9223372036854775807 / m ≤ 9223372036854775807 := Nat.div_le_self _ _
  have l2 : 2 ≤ 9223372036854775807 / m := (Nat.le_div_iff_mul_le (by omega)).2 (by omega)
  rw [e]
  generalize 9223372036854775807 / m = q at *
  have : wrap64 (q : Int) = (q : Int) := by simp [wrap64]; omega
  rw [this]
  omega
theorem join_next {x : Bs} {r : List Bs} {k : Nat} {y : Bs} (h : r[k]? = some y) : (x ++ Lib.joinTail [32] (r.take k)) ++ [32] ++ y = x ++ Lib.joinTail [32] (r.take (k + 1)) := by
  rw [Lib.joinTail_take_succ _ _ _ _ h]
  simp
set_option maxHeartbeats 8000000 in
set_option maxRecDepth 100000 in
theorem join_any (ks : List Bs) (A : Option Addr) (n c : Nat) (w : World) (hR : Reads w w.heap.size 1 A n (svs ks)) (hnc : n ≤ c) (hn : n ≤ 100) (ht : Lib.lens ks ≤ 1000000) :
    Calls Tryd.prog 33 #[.slice A n c, .string ⟨#[32]⟩] w fun e w' => e = .returned (.string ⟨(Lib.join ks [32]).toArray⟩) ∧ Below w.heap.size w w' := by
  have hl : ks.length = n := by have := hR.1; rw [svs_length] at this; omega
  cases ks with
  | nil =>
    obtain rfl : n = 0 := by simpa using hl.symm
    rw [Lib.join_nil]
    clear hR ht hl
    go_enter Tryd.func33, Tryd.ntmps33
    go_wp2
    go_ret
    exact ⟨rfl, Below.refl _ _⟩
  | cons x r =>
    obtain ⟨g, o, rfl, hg, hc⟩ := cells_str hR (by simp)
    have c0 := hc 0 x rfl
    rw [Nat.add_zero] at c0
    cases r with
    | nil =>
      obtain rfl : n = 1 := by simpa using hl.symm
      rw [Lib.join_one]
      have hia := fun W => str_at g o 1 c 0 0 rfl (by omega) W
      simp only [Nat.add_zero] at hia
      clear hR ht hl hc
      go_enter Tryd.func33, Tryd.ntmps33
      go_wp2_with fail
      go_ret
      exact ⟨rfl, Below.refl _ _⟩
    | cons y r =>
      obtain ⟨rr, hrr⟩ : ∃ rr, y :: r = rr := ⟨_, rfl⟩
      have hrl : rr.length + 1 = n := by rw [← hrr]; simpa using hl
      have hr1 : 1 ≤ rr.length := by rw [← hrr]; simp
      have hct : Hid (∀ (j : Nat) (z : Bs), (x :: rr)[j]? = some z → w.cell? ⟨g, o + j, none⟩ = some (.string ⟨z.toArray⟩)) := hide (by rw [← hrr]; exact hc)
      have HJ : Hid (Lib.join (x :: y :: r) [32] = x ++ Lib.joinTail [32] rr) := hide (by rw [← hrr, Lib.join_cons])
      have HLN : Hid (Lib.lens (x :: rr) ≤ 1000000) := hide (by rw [hrr] at ht; exact ht)
      rw [HJ.out]
      clear hR hl hc HJ hrr ht
      have HRL := hide hrl
      have kn0 : ((n : Int) == 0) = false := beq_eq_false_iff_ne.2 (by omega)
      have kn1 : ((n : Int) == 1) = false := beq_eq_false_iff_ne.2 (by omega)
      have kd : ¬ (n : Int) - 1 = 0 := by omega
      have wn : IntKind.i64.wrap ((n : Int) - 1) = (n : Int) - 1 := by simp [IntKind.wrap, IntKind.bits, IntKind.signed]; omega
      have hsl := fun W => ssl_from g o n c 1 1 rfl (by omega) (by omega) W
      have kq := div_big rr.length hr1 (by omega)
      have HN2 := hide (by omega : 2 ≤ n)
      have hnr : (rr.length : Int) = (n : Int) - 1 := by omega
      rw [hnr] at kq
      clear hrl hnr
      go_enter Tryd.func33, Tryd.ntmps33
      go_wp2_with fail
      go_loop [5, 41] (fun u5 u41 => ∃ (k s : Nat), k ≤ n ∧ u41 = .int .i64 (k : Int) ∧ u5 = .int .i64 (s : Int) ∧ Hid (s = n - 1 + Lib.lens ((x :: rr).take k))) (fun _ u41 => n - (intOf u41).toNat)
      case atStart => exact ⟨0, n - 1, by omega, rfl, by congr 1; have := HN2.out; omega, hide (by simp [Lib.lens])⟩
      case round =>
        obtain ⟨k, s, hk, rfl, rfl, HSM⟩ := hrel
        by_cases hlt : k < n
        · obtain ⟨z, hz⟩ : ∃ z, (x :: rr)[k]? = some z := ⟨_, List.getElem?_eq_getElem (by have := HRL.out; simp; omega)⟩
          have cz := hct.out k z hz
          have hik := fun W => str_at g o n c k (k : Int) rfl hlt W
          have hlt' : (k : Int) < (n : Int) := by omega
          have HS2 : Hid (s + z.length = n - 1 + Lib.lens ((x :: rr).take (k + 1))) := hide (by rw [Lib.lens_take_succ _ _ _ hz, HSM.out]; omega)
          have hsb : s + z.length ≤ 1000200 := by have h1 := HS2.out; have h2 := Lib.lens_take_le (x :: rr) (k + 1); have h3 := HLN.out; omega
          have hp1 : ¬ (9223372036854775807 : Int) - (s : Int) < (z.length : Int) := by omega
          have ws1 : IntKind.i64.wrap (9223372036854775807 - (s : Int)) = 9223372036854775807 - (s : Int) := by simp [IntKind.wrap, IntKind.bits, IntKind.signed]; omega
          have ws2 : IntKind.i64.wrap ((s : Int) + (z.length : Int)) = (s : Int) + (z.length : Int) := by simp [IntKind.wrap, IntKind.bits, IntKind.signed]; omega
          clear hz
          go_wp2_with fail
          go_round
          case rel => exact ⟨k + 1, s + z.length, by omega, by go_num, by go_num, HS2⟩
          case measure => simp [intOf]; omega
        · have hlt' : ¬ (k : Int) < (n : Int) := by omega
          obtain rfl : k = n := by omega
          have hsb : s ≤ 1000200 := by have h1 := HSM.out; have h2 := Lib.lens_take_le (x :: rr) k; have h3 := HLN.out; omega
          have XGR := hide (Any.Builder_Grow_fresh Tryd.lays165 Tryd.Builder_Extra_165 w.heap.size w.heap.size s (w.alloc (.cells #[.pointer none, .slice none 0 0] 72)) (Nat.le_refl _) (Blk.new w 72 #[.pointer none, .slice none 0 0]) (by simp) (by omega))
          have HB0 := hide ((Below.refl w.heap.size w).alloc (Nat.le_refl _) (.cells #[.pointer none, .slice none 0 0] 72))
          have HCT := hide (fun (W : World) (hb : Below w.heap.size w W) (j : Nat) (z : Bs) (h : (x :: rr)[j]? = some z) => (hb.cell (p := ⟨g, o + j, none⟩) hg).trans (hct.out j z h))
          have hi0 := fun W => str_at g o k c 0 0 rfl (by have := HN2.out; omega) W
          simp only [Nat.add_zero] at hi0
          have hlx : x.length ≤ 1000000 := by have h3 := HLN.out; simp only [Lib.lens, List.map_cons, List.sum_cons] at h3; omega
          have hk1 : k - 1 = rr.length := by have := HRL.out; omega
          rw [hk1] at hsl
          have HTL : Hid (∀ j, j ≤ rr.length → (x ++ Lib.joinTail [32] (rr.take j)).length ≤ 1001000) := hide (fun j hj => by
            have h1 := Lib.joinTail_take_le [32] rr j
            have h2 := Lib.joinTail_length [32] rr
            have h3 : x.length + Lib.lens rr ≤ 1000000 := by have h3 := HLN.out; simpa only [Lib.lens, List.map_cons, List.sum_cons] using h3
            have h5 : rr.length ≤ 100 := by omega
            rw [List.length_append]
            simp only [List.length_singleton, Nat.one_mul] at h2
            omega)
          have HK1 := hide hk1
          have hkn := HK1.out
          clear hk1 HSM hct hkn
          go_wp2_with fail
          refine XGR.out.mono ?_
          rintro e w1 ⟨rfl, hbd, hb⟩
          have HBD := hide hbd
          have HB1 := hide (HB0.out.trans hb)
          have cx := (HB1.out.cell (p := ⟨g, o, none⟩) hg).trans c0
          clear hbd hb XGR HB0 c0
          go_wp2_with fail
          refine (writeString_any w.heap.size w.heap.size [] x _ (.inr HBD.out) (by simp; omega) HB1.out.size).mono ?_
          rintro e w2 ⟨rfl, hbd, hb⟩
          have HBD2 := hide hbd
          have HB2 := hide (HB1.out.trans hb)
          clear hbd hb HBD HB1 cx
          rw [List.nil_append] at HBD2
          go_wp2_with fail
          go_loopw [65] (fun u65 wx => ∃ (j : Nat), j ≤ rr.length ∧ u65 = .int .i64 (j : Int) ∧ Hid (Lib.BuilderAt 72 5 w.heap.size w.heap.size (.pointer (some ⟨w.heap.size, 0, none⟩)) (Lib.byteCells (x ++ Lib.joinTail [32] (rr.take j))) wx) ∧ Hid (Below w.heap.size w wx)) (fun u65 _ => rr.length - (intOf u65).toNat)
          case atStart => exact ⟨0, by omega, rfl, hide (by simpa [Lib.joinTail] using HBD2.out), HB2⟩
          case round =>
            clear HBD2 HB2
            obtain ⟨j, hj, rfl, HBX, HBx⟩ := hrel
            by_cases hlt : j < rr.length
            · obtain ⟨z, hz⟩ : ∃ z, rr[j]? = some z := ⟨_, List.getElem?_eq_getElem hlt⟩
              have cz := HCT.out wr HBx.out (j + 1) z (by simpa using hz)
              have hij := fun W => str_at g (o + 1) rr.length (c - 1) j (j : Int) rfl hlt W
              rw [show o + (j + 1) = o + 1 + j by omega] at cz
              have HNX := hide (join_next (x := x) hz)
              have hlt' : (j : Int) < (rr.length : Int) := by omega
              have hb1 := HTL.out j (by omega)
              have hb2 := HTL.out (j + 1) (by omega)
              have hzl : (x ++ Lib.joinTail [32] (rr.take j)).length + 1 + z.length ≤ 1001000 := by
                rw [← HNX.out, List.length_append, List.length_append, List.length_singleton] at hb2
                exact hb2
              clear hz hb2
              have hjb : j ≤ 100 := by have := HK1.out; omega
              obtain ⟨bj1, HE1⟩ : ∃ b, Hid (x ++ Lib.joinTail [32] (rr.take (j + 1)) = b) := ⟨_, hide rfl⟩
              rw [HE1.out] at HNX
              generalize x ++ Lib.joinTail [32] (rr.take j) = bj at *
              go_wp2_with fail
              refine (writeString_any w.heap.size w.heap.size bj [32] _ (.inr HBX.out) (by simp; omega) HBx.out.size).mono ?_
              rintro e w3 ⟨rfl, hbd, hb⟩
              have HBD3 := hide hbd
              have HB3 := hide (HBx.out.trans hb)
              clear hbd hb
              go_wp2_with fail
              refine (writeString_any w.heap.size w.heap.size (bj ++ [32]) z _ (.inr HBD3.out) (by simp; omega) HB3.out.size).mono ?_
              rintro e w4 ⟨rfl, hbd, hb⟩
              rw [HNX.out] at hbd
              have HBD4 := hide hbd
              have HB4 := hide (HB3.out.trans hb)
              clear hbd hb
              go_wp2_with fail
              go_roundw
              case rel => exact ⟨j + 1, by omega, by go_num, hide (by rw [HE1.out]; exact HBD4.out), HB4⟩
              case measure => simp [intOf]; omega
            · have hlt' : ¬ (j : Int) < (rr.length : Int) := by omega
              obtain rfl : j = rr.length := by omega
              have HBE := hide HBX.out
              rw [List.take_of_length_le (Nat.le_refl _)] at HBE
              clear HBX HTL
              obtain ⟨R, HRR⟩ : ∃ b, Hid (x ++ Lib.joinTail [32] rr = b) := ⟨_, hide rfl⟩
              rw [HRR.out] at HBE
              go_wp2_with fail
              refine (Any.Builder_String_any Tryd.lays169 Tryd.Builder_Extra_169 w.heap.size w.heap.size R _ (.inr HBE.out) HBx.out.size).mono ?_
              rintro e w5 ⟨rfl, hb⟩
              have HB5 := hide (HBx.out.trans hb)
              clear hb
              go_wp2_with fail
              go_ret
              exact ⟨by rw [HRR.out]; rfl, HB5.out⟩
end Go.Proofs.YtabbkhkkhphgdaaDoor
