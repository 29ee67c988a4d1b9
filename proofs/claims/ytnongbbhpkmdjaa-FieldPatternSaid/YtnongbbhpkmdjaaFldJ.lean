/- texts, Texts, few and heads of layer 29. -/
import Derived.Test.YtnongbbhpkmdjaaFldI
namespace Go.Proofs.Ytnongbbhpkmdjaa
open Go.RowKit
set_option linter.unusedVariables false
theorem lit_rd (W : World) (ks : List Bs) : Reads (W.alloc (.cells (svs ks).toArray 9)) (W.alloc (.cells (svs ks).toArray 9)).heap.size 1 (some ⟨W.heap.size, 0, none⟩) ks.length (svs ks) := by
  refine ⟨by simp [svs], fun _ => ⟨_, rfl, by simp, ?_⟩⟩
  intro j u hu
  rw [at_add, Nat.zero_add, (Blk.new W 9 (svs ks).toArray).cell j]
  simpa using hu
theorem lit_pc (W : World) (l : List Pc) : Reads (W.alloc (.cells (pvs l).toArray 35)) (W.alloc (.cells (pvs l).toArray 35)).heap.size 4 (some ⟨W.heap.size, 0, none⟩) l.length (pvs l) := by
  refine ⟨pvs_length l, fun _ => ⟨_, rfl, by simp, ?_⟩⟩
  intro j u hu
  rw [at_add, Nat.zero_add, (Blk.new W 35 (pvs l).toArray).cell j]
  simpa using hu
theorem rd_len {w : World} {B n : Nat} {A : Option Addr} {ks : List Bs} (h : Reads w B 1 A n (svs ks)) : n = ks.length := by have := h.1; rw [svs_length] at this; omega
set_option maxHeartbeats 1000000 in
theorem texts_eq (ks : List Bs) (A B : Option Addr) (n c m d : Nat) (w : World) (hA : Reads w w.heap.size 1 A n (svs ks)) (hB : Reads w w.heap.size 1 B m (svs ks)) (hn : n ≤ 1000000) :
    Calls Try.prog 18 #[.slice A n c, .slice B m d] w fun e w' => e = .returned (.bool true) ∧ Below w.heap.size w w' := by
  have h1 := rd_len hA
  have h2 := rd_len hB
  subst h1
  subst h2
  have HA := hide hA
  have HB := hide hB
  clear hA hB
  go_enter Try.func18, Try.ntmps18
  go_wp2_with fail
  go_loopw [5] (fun u5 wx => ∃ (k : Nat), k ≤ ks.length ∧ u5 = .int .i64 k ∧ Hid (Below w.heap.size w wx)) (fun i _ => ks.length - (intOf i).toNat)
  case atStart => exact ⟨0, Nat.zero_le _, rfl, hide (Below.refl _ _)⟩
  case round =>
    obtain ⟨k, hkl, rfl, HW⟩ := hrel
    by_cases hlt : k < ks.length
    · obtain ⟨g, o, rfl, hg, hc1⟩ := cells_of (HA.out.below HW.out) (by omega) (by rw [svs_length]; omega)
      obtain ⟨g2, o2, rfl, hg2, hc2⟩ := cells_of (HB.out.below HW.out) (by omega) (by rw [svs_length]; omega)
      have hcell := hc1 k _ (svs_get ks k hlt)
      have hcell2 := hc2 k _ (svs_get ks k hlt)
      generalize ks[k] = x at *
      unfold sv at hcell hcell2
      have hi1 : (k : Int) < (ks.length : Int) := by omega
      have hi0 : (0 : Int) ≤ (k : Int) := by omega
      have hx : (x != x) = false := by simp
      clear hc1 hc2
      go_wp2_with fail
      go_quiet (fail)
      go_wp2_with fail
      go_roundw
      case rel => exact ⟨k + 1, by omega, by go_num, hide (below_drewN HW.out _)⟩
      case measure => simp [intOf]; omega
    · obtain rfl : k = ks.length := by omega
      go_wp2_with fail
      go_ret
      exact ⟨rfl, HW.out⟩
set_option maxRecDepth 100000 in
set_option maxHeartbeats 4000000 in
theorem texts_any (B : Nat) (fs : List Fd) (A : Option Addr) (n c : Nat) (w : World) (hF : Fo B w A n c fs none) (hB : B ≤ w.heap.size) (hn : n ≤ 100000) (hfl : ∀ f ∈ fs, f.length ≤ 1000000) (htl : ∀ f ∈ fs, (txt f).length ≤ 100000) :
    Calls Try.prog 22 #[.slice A n c] w fun e w' => ∃ A' n' c', e = .returned (.slice A' n' c') ∧ Ow w.heap.size w' A' n' c' (fs.map txt) ∧ Below w.heap.size w w' := by
  have HL := hide hF.len
  have HF := hide hF
  have HFL := hide hfl
  have HTL := hide htl
  obtain ⟨i0, hi, hz0, hz1, hz2⟩ := info_parts infoStr
  clear hF hfl htl
  go_enter Try.func22, Try.ntmps22
  go_wp2_with fail
  go_loopw [3, 4] (fun u3 u4 wx => ∃ (i : Nat) (A' : Option Addr) (c' : Nat), i ≤ n ∧ u4 = .int .i64 (i : Int) ∧ u3 = .slice A' i c' ∧ Hid (Below w.heap.size w wx) ∧ Hid (Ow w.heap.size wx A' i c' ((fs.take i).map txt))) (fun _ u4 _ => n - (intOf u4).toNat)
  case atStart => exact ⟨0, none, 0, Nat.zero_le _, rfl, rfl, hide (Below.refl _ _), hide (by simpa using Ow.none_ _ _)⟩
  case round =>
    obtain ⟨i, A', c', hi', rfl, rfl, HB, HO⟩ := hrel
    by_cases hlt : i < n
    · obtain ⟨f, hf⟩ : ∃ f, fs[i]? = some f := ⟨_, List.getElem?_eq_getElem (by have := HL.out; omega)⟩
      obtain ⟨gF, A2, n2, c2, hA, hBF, hcell, hrd, hn2⟩ := (HF.out.below HB.out).at_ hf
      have hia : ∀ W, (Instr.indexAt 25 (.slice A n c) (.int .i64 (i : Int))).run Try.prog W = .ok (.pointer (some ⟨gF, i, none⟩)) W := fun W => by rw [hA]; exact fd_at gF n c i (i : Int) rfl hlt W
      have h1 := HFL.out f (List.mem_of_getElem? hf)
      have h2 := HTL.out f (List.mem_of_getElem? hf)
      have XT := hide (text_any (up f) A2 n2 c2 wr hrd (by omega) (by rw [txl_up]; omega))
      rw [txl_up] at XT
      have HMP : Hid ((fs.take (i + 1)).map txt = (fs.take i).map txt ++ [txt f]) := hide (by rw [take_snoc' hf, List.map_append]; rfl)
      have hlt' : (i : Int) < (n : Int) := by omega
      clear hrd hn2 hf hA
      go_wp2_with fail
      refine XT.out.mono ?_
      rintro e w1 ⟨rfl, hb1⟩
      have HB1 : Hid (Below w.heap.size w w1) := hide (below_more HB.out (Nat.le_refl _) hb1)
      have HO1 := hide (HO.out.below hb1)
      have HOA := hide (HO1.out.alloc (.cells #[.string ⟨(txt f).toArray⟩] 9))
      have HR := hide (one_str w1 (txt f))
      have hbw1 : w.heap.size ≤ w1.heap.size := HB1.out.size
      clear hb1 XT HO HB
      go_wp2_with (at_builtin; (refine wpList_append_any _ rfl (.tmp 11) (.tmp 17) 31 rfl w.heap.size 9 i0 _ 1 16 Try.underlying31 hi hz0 hz1 hz2 rfl (by omega) (.slice A' i c') i (svs ((fs.take i).map txt)) rfl (by exact HOA.out) (w1.heap.size + 1) (some ⟨w1.heap.size, 0, none⟩) 1 1 (svs [txt f]) rfl (by exact HR.out) (svs_one _) ?c1 ?c2 ?c3 ?_))
      case c1 => unfold maxLen; omega
      case c2 => omega
      case c3 => simp; omega
      intro v1 W5 hown2 hg2 hat2
      obtain ⟨A5, c5, rfl, hO5, hB5⟩ := ow_next' HO1.out (x := txt f) (by rw [List.map_take]; exact hown2) hg2 HB1.out (Nat.le_refl _)
      have HO5 : Hid (Ow w.heap.size W5 A5 (i + 1) c5 ((fs.take (i + 1)).map txt)) := hide (by rw [HMP.out]; exact hO5)
      have HB5 := hide hB5
      clear hown2 hg2 hat2 hO5 hB5 HO1 HOA HR HB1
      go_wp2_with fail
      go_roundw
      case rel => exact ⟨i + 1, A5, c5, by omega, by go_num, rfl, HB5, HO5⟩
      case measure => simp [intOf]; omega
    · have hlt' : ¬ (i : Int) < (n : Int) := by omega
      have HO2 : Hid (Ow w.heap.size wr A' i c' (fs.map txt)) := hide (by
        have := HO.out
        rwa [List.take_of_length_le (by have := HL.out; omega)] at this)
      clear HO
      go_wp2_with fail
      go_ret
      exact ⟨A', i, c', rfl, HO2.out, HB.out⟩
def fewP (l : List Pc) : Prop := l.length ≤ 40 ∧ ∀ p ∈ l, p.text.length ≤ 300
theorem few_txl {l : List Pc} (h : fewP l) : (txl l).length ≤ 12000 := by
  have key : ∀ l : List Pc, (∀ p ∈ l, p.text.length ≤ 300) → (txl l).length ≤ 300 * l.length := by
    intro l
    induction l with
    | nil => intro _; simp [txl]
    | cons p r ih =>
      intro h
      have h1 := h p (by simp)
      have h2 := ih (fun q hq => h q (by simp [hq]))
      simp only [txl, List.map_cons, List.flatten_cons, List.length_append, List.length_cons] at *
      omega
  have := key l h.2
  have := h.1
  omega
set_option maxHeartbeats 1000000 in
theorem few_yes (l : List Pc) (A : Option Addr) (n c : Nat) (w : World) (hR : Reads w w.heap.size 4 A n (pvs l)) (h : fewP l) :
    Calls Try.prog 7 #[.slice A n c] w fun e w' => e = .returned (.bool true) ∧ w = w' := by
  have hll : l.length = n := by have := hR.1; rw [pvs_length] at this; omega
  have hn40 : n ≤ 40 := by have := h.1; omega
  have HLL := hide hll
  have HR := hide hR
  have HT := hide h.2
  have k40 : (n : Int) ≤ 40 := by omega
  clear hR hll h
  go_enter Try.func7, Try.ntmps7
  go_wp2_with fail
  go_loop [3] (fun u3 => ∃ i : Nat, i ≤ n ∧ u3 = .int .i64 (i : Int)) (fun u3 => n - (intOf u3).toNat)
  case atStart => exact ⟨0, Nat.zero_le _, rfl⟩
  case round =>
    obtain ⟨i, hi, rfl⟩ := hrel
    by_cases hlt : i < n
    · obtain ⟨p, hp⟩ : ∃ p, l[i]? = some p := ⟨_, List.getElem?_eq_getElem (by have := HLL.out; omega)⟩
      obtain ⟨g, o, rfl, hg, q0, q1, q2, q3⟩ := pc_cells HR.out hp
      have hpt := HT.out p (List.mem_of_getElem? hp)
      have hia := fun W => pc_at g o n c i (i : Int) rfl hlt W
      have hlt' : (i : Int) < (n : Int) := by omega
      have kt : ¬ (300 : Int) < (p.text.length : Int) := by omega
      clear hp
      go_wp2_with fail
      go_round
      case rel => exact ⟨i + 1, by omega, by go_num⟩
      case measure => simp [intOf]; omega
    · have hlt' : ¬ (i : Int) < (n : Int) := by omega
      go_wp2_with fail
      go_ret
      exact ⟨rfl, rfl⟩
set_option maxHeartbeats 1000000 in
theorem few_no (l : List Pc) (A : Option Addr) (n c : Nat) (w : World) (hR : Reads w w.heap.size 4 A n (pvs l)) (h : ¬ fewP l) :
    Calls Try.prog 7 #[.slice A n c] w fun e w' => e = .returned (.bool false) ∧ w = w' := by
  have hll : l.length = n := by have := hR.1; rw [pvs_length] at this; omega
  have HLL := hide hll
  have HR := hide hR
  clear hR
  by_cases hn40 : n ≤ 40
  · have k40 : (n : Int) ≤ 40 := by omega
    have HT : Hid (¬ ∀ p ∈ l, p.text.length ≤ 300) := hide (fun h' => h ⟨by omega, h'⟩)
    clear hll h
    go_enter Try.func7, Try.ntmps7
    go_wp2_with fail
    go_loop [3] (fun u3 => ∃ i : Nat, i ≤ n ∧ u3 = .int .i64 (i : Int) ∧ Hid (∀ (j : Nat) p, j < i → l[j]? = some p → p.text.length ≤ 300)) (fun u3 => n - (intOf u3).toNat)
    case atStart => exact ⟨0, Nat.zero_le _, rfl, hide (fun j p h => by omega)⟩
    case round =>
      obtain ⟨i, hi, rfl, HF⟩ := hrel
      by_cases hlt : i < n
      · obtain ⟨p, hp⟩ : ∃ p, l[i]? = some p := ⟨_, List.getElem?_eq_getElem (by have := HLL.out; omega)⟩
        obtain ⟨g, o, rfl, hg, q0, q1, q2, q3⟩ := pc_cells HR.out hp
        have hia := fun W => pc_at g o n c i (i : Int) rfl hlt W
        have hlt' : (i : Int) < (n : Int) := by omega
        by_cases ht : p.text.length ≤ 300
        · have kt : ¬ (300 : Int) < (p.text.length : Int) := by omega
          have HF2 : Hid (∀ (j : Nat) p, j < i + 1 → l[j]? = some p → p.text.length ≤ 300) := hide (fun j q hj hq => by
            rcases Nat.lt_or_ge j i with h1 | h1
            · exact HF.out j q h1 hq
            · obtain rfl : j = i := by omega
              rw [hp] at hq; injection hq with hq; rw [← hq]; exact ht)
          clear hp HF
          go_wp2_with fail
          go_round
          case rel => exact ⟨i + 1, by omega, by go_num, HF2⟩
          case measure => simp [intOf]; omega
        · have kt : (300 : Int) < (p.text.length : Int) := by omega
          clear hp HF
          go_wp2_with fail
          go_ret
          exact ⟨rfl, rfl⟩
      · exfalso
        refine HT.out (fun p hp => ?_)
        obtain ⟨j, hj, rfl⟩ := List.getElem_of_mem hp
        exact HF.out j _ (by have := HLL.out; omega) (List.getElem?_eq_getElem hj)
  · have k40 : ¬ (n : Int) ≤ 40 := by omega
    have k0 : (0 : Int) < (n : Int) := by omega
    have kd : decide ((n : Int) ≤ 40) = false := decide_eq_false k40
    clear hll h
    go_enter Try.func7, Try.ntmps7
    go_wp2_with fail
    refine wp_loop_rounds 1 ?_
    rw [rounds_succ]
    go_wp2_with fail
    go_ret
    exact ⟨rfl, rfl⟩
end Go.Proofs.Ytnongbbhpkmdjaa
