/- Contracts of glob.items and what fits a class. -/
import Derived.Test.YtaibmfahfkoahaaGreatStrs
import Derived.Test.YtaibmfahfkoahaaGreatMore
import Derived.Test.YtaibmfahfkoahaaGreatShelf
import Derived.Test.YtaibmfahfkoahaaGreatGlobM
import Derived.Outline
import Derived.Deep.WholeRow
import Derived.WalkMore
import Derived.ScopeJumps
namespace Go.Proofs.YtaibmfahfkoahaaGreat
open Go.RowKit
set_option linter.unusedVariables false
/-- The bytes that the items of a class stand for. -/
def itemsF : Bs → UInt8 → Bool
  | [], _ => false
  | [a], x => x == a
  | [a, b], x => x == a || x == b
  | a :: b :: c :: t, x => if b = 45 then (decide (a.toNat ≤ x.toNat ∧ x.toNat ≤ c.toNat) || itemsF t x) else (x == a || itemsF (b :: c :: t) x)
/-- A set of bytes as cells. -/
def setA (f : UInt8 → Bool) : Array Value := ((List.range 256).map fun i => Value.bool (f (UInt8.ofNat i))).toArray
theorem setA_size (f : UInt8 → Bool) : (setA f).size = 256 := by simp [setA]
theorem setA_at (f : UInt8 → Bool) (x : UInt8) : (setA f)[x.toNat]? = some (.bool (f x)) := by
  have := x.toNat_lt
  simp [setA, this]
theorem setA_at' (f : UInt8 → Bool) (n : Nat) (h : n < 256) : (setA f)[n]? = some (.bool (f (UInt8.ofNat n))) := by
  simp [setA, h]
theorem setA_set (f : UInt8 → Bool) (n : Nat) (h : n < 256) : (setA f).setIfInBounds n (.bool true) = setA (fun y => y.toNat == n || f y) := by
  apply Array.ext_getElem?
  intro i
  rw [Array.getElem?_setIfInBounds]
  by_cases hi : i < 256
  · rw [setA_at' _ i hi, setA_at' _ i hi, setA_size]
    have e : (UInt8.ofNat i).toNat = i := by simp; omega
    by_cases hn : n = i
    · subst hn
      rw [if_pos rfl, if_pos h]; simp [e]
    · rw [if_neg hn]
      have : ((UInt8.ofNat i).toNat == n) = false := beq_eq_false_iff_ne.2 (by rw [e]; exact Ne.symm hn)
      rw [this]; rfl
  · rw [Array.getElem?_eq_none (by rw [setA_size]; omega), Array.getElem?_eq_none (by rw [setA_size]; omega), setA_size]
    by_cases hn : n = i
    · rw [if_pos hn, if_neg (by omega)]
    · rw [if_neg hn]
theorem info51 : (Tryz.prog.info? 121).map (fun i => (i.zero, i.size)) = some (some (.agg (setA fun _ => false)), 256) := by kernel_rfl
theorem zero51 : (∀ w, (zeroValue 121).run Tryz.prog w = .ok (.agg (setA fun _ => false)) w) ∧ (Tryz.prog.info? 121).map (·.size) = some 256 := zero_of_info info51
theorem setA_congr {f g : UInt8 → Bool} (h : ∀ x, f x = g x) : setA f = setA g := by rw [show f = g from funext h]
theorem load_set (W : World) (g : Nat) (f : UInt8 → Bool) (h : Blk W g 121 (setA f)) : (loadCells ⟨g, 0, none⟩ 256).run Tryz.prog W = .ok (setA f) W := by
  have := run_loadCells_list (P := Tryz.prog) W ⟨g, 0, none⟩ (setA f).toList (fun j v hj => by
    rw [at_add, Nat.zero_add, h.cell j]
    simpa using hj)
  simpa [setA_size] using this
theorem store_set (W : World) (g : Nat) (f f0 : UInt8 → Bool) (h : Blk W g 121 (setA f0)) : (storeCells ⟨g, 0, none⟩ (setA f).toList 0).run Tryz.prog W = .ok () (W.setRow g (setA f)) := by
  have := run_storeCells_from (P := Tryz.prog) g 121 (setA f).toList 0 (setA f0) W h (by simp [setA_size]) (fun v hv => by
    simp only [setA, List.mem_map] at hv
    obtain ⟨i, _, rfl⟩ := hv
    rfl)
  simpa using this
theorem blk_row (W : World) (g : Nat) (cs old : Array Value) (t : TypeId) (h : Blk W g t old) : Blk (W.setRow g cs) g t cs := setRow_heap W g old cs t (0, 0) h
theorem itemsF_range (s : Bs) (i : Nat) (a c : UInt8) (h0 : s[i]? = some a) (h1 : s[i + 1]? = some 45) (h2 : s[i + 2]? = some c) (x : UInt8) : itemsF (s.drop i) x = (decide (a.toNat ≤ x.toNat ∧ x.toNat ≤ c.toNat) || itemsF (s.drop (i + 3)) x) := by
  obtain ⟨l0, e0⟩ := List.getElem?_eq_some_iff.1 h0
  obtain ⟨l1, e1⟩ := List.getElem?_eq_some_iff.1 h1
  obtain ⟨l2, e2⟩ := List.getElem?_eq_some_iff.1 h2
  rw [List.drop_eq_getElem_cons l0, List.drop_eq_getElem_cons l1, List.drop_eq_getElem_cons l2, e0, e1, e2, itemsF, if_pos rfl]
theorem itemsF_one (s : Bs) (i : Nat) (a : UInt8) (h0 : s[i]? = some a) (h : s.length ≤ i + 2 ∨ s[i + 1]? ≠ some 45) (x : UInt8) : itemsF (s.drop i) x = (x == a || itemsF (s.drop (i + 1)) x) := by
  obtain ⟨l0, e0⟩ := List.getElem?_eq_some_iff.1 h0
  rw [List.drop_eq_getElem_cons l0, e0]
  generalize hr : s.drop (i + 1) = r
  match r, hr with
  | [], _ => simp [itemsF]
  | [b], _ => simp [itemsF]
  | b :: c :: t, hr =>
    have hl : i + 1 + 1 < s.length := by
      have := congrArg List.length hr
      rw [List.length_drop] at this
      simp at this
      omega
    have hb : s[i + 1]? = some b := by
      have := congrArg (fun q => q[0]?) hr
      simpa [List.getElem?_drop] using this
    have : b ≠ 45 := by
      rcases h with h | h
      · omega
      · intro e; subst e; exact h hb
    rw [itemsF, if_neg this]
theorem itemsF_end (s : Bs) (i : Nat) (h : s.length ≤ i) (x : UInt8) : itemsF (s.drop i) x = false := by
  rw [List.drop_of_length_le h]; rfl
theorem ix_l (l : Bs) (i : Nat) (c : UInt8) (h : l[i]? = some c) (W : World) : (Instr.index 9 (.string ⟨l.toArray⟩) (.int .i64 (i : Int))).run Tryz.prog W = .ok (.int .u8 (c.toNat : Int)) W := by
  obtain ⟨h1, h2⟩ := List.getElem?_eq_some_iff.1 h
  rw [run_index_string (P := Tryz.prog) W 9 _ .i64 (i : Int) Tryz.underlying9, dif_pos ⟨by omega, by show (i : Int) < ((l.length : Nat) : Int); omega⟩]
  simp only [Int.toNat_natCast]
  rw [← h2]
  rfl
theorem u8_eq (x c : UInt8) : ((x.toNat : Int) == (c.toNat : Int)) = (x == c) := by
  rw [Bool.eq_iff_iff, beq_iff_eq, beq_iff_eq]
  exact ⟨fun h => UInt8.toNat_inj.1 (by omega), fun h => by rw [h]⟩
set_option maxRecDepth 100000 in
set_option maxHeartbeats 4000000 in
theorem items_any (s : Bs) (hs : s.length ≤ 1000000) (w : World) : Calls Tryz.prog 105 #[.string ⟨s.toArray⟩] w fun e w' => e = .returned (.agg (setA (itemsF s))) ∧ Below w.heap.size w w' := by
  have hz := zero51.1
  go_enter Tryz.func105, Tryz.ntmps105
  go_wp2_with fail
  go_step3
  go_wp2_with fail
  obtain ⟨g0, hg0⟩ : ∃ g, w.heap.size = g := ⟨_, rfl⟩
  obtain ⟨W0, hW0⟩ : ∃ W, (w.alloc (.cells (setA fun _ => false) 121)).alloc (.cells (setA fun _ => false) 121) = W := ⟨_, rfl⟩
  have hB0 : Below g0 w W0 := by rw [← hW0, ← hg0]; exact ((Below.refl _ _).alloc (Nat.le_refl _) _).alloc (by simp) _
  have hR0 : Blk W0 g0 121 (setA fun _ => false) := by rw [← hW0, ← hg0]; exact (Blk.new w 121 _).alloc _
  have hR1 : Blk W0 (g0 + 1) 121 (setA fun _ => false) := by
    have := Blk.new (w.alloc (.cells (setA fun _ => false) 121)) 121 (setA fun _ => false)
    rw [← hW0, ← hg0]
    simpa using this
  have HG0 := hide hg0
  rw [hW0]
  try rw [hg0]
  have HB0 := hide hB0
  have H0 := hide hR0
  have H1 := hide hR1
  clear hW0 hB0 hR0 hR1 hz hg0
  go_step3
  go_wp2_with fail
  go_loopw [4] (fun u4 wx => ∃ (i : Nat) (f : UInt8 → Bool), i ≤ s.length ∧ u4 = .int .i64 i ∧ Hid (Blk wx g0 121 (setA fun _ => false)) ∧ Hid (Blk wx (g0 + 1) 121 (setA f)) ∧ Hid (Below g0 w wx) ∧ Hid (∀ x, itemsF s x = (f x || itemsF (s.drop i) x))) (fun u4 _ => s.length - (intOf u4).toNat)
  case atStart => exact ⟨0, fun _ => false, Nat.zero_le _, rfl, H0, H1, HB0, hide (fun x => by simp)⟩
  case round =>
    clear H0 H1 HB0
    obtain ⟨i, f, hi, rfl, H0, H1, HB, HF⟩ := hrel
    by_cases hlt : i < s.length
    · obtain ⟨a, ha⟩ : ∃ a, s[i]? = some a := ⟨_, List.getElem?_eq_getElem hlt⟩
      have hix := ix_l s i a ha
      have HAx := hide ha
      by_cases hr : i + 2 < s.length ∧ s[i + 1]? = some 45
      · obtain ⟨hr1, hr2⟩ := hr
        obtain ⟨c, hc⟩ : ∃ c, s[i + 2]? = some c := ⟨_, List.getElem?_eq_getElem hr1⟩
        have hix1 : ∀ W, (Instr.index 9 (.string ⟨s.toArray⟩) (.int .i64 ((i : Int) + 1))).run Tryz.prog W = .ok (.int .u8 45) W := fun W => by
          have := ix_l s (i + 1) 45 hr2 W
          push_cast at this
          exact this
        have hix2 : ∀ W, (Instr.index 9 (.string ⟨s.toArray⟩) (.int .i64 ((i : Int) + 2))).run Tryz.prog W = .ok (.int .u8 (c.toNat : Int)) W := fun W => by
          have := ix_l s (i + 2) c hc W
          push_cast at this
          exact this
        have HR := hide (itemsF_range s i a c ha hr2 hc)
        have hc256 : c.toNat < 256 := c.toNat_lt
        have ha256 : a.toNat < 256 := a.toNat_lt
        have hi2 : (i : Int) + 2 < (s.length : Int) := by omega
        have hi1 : (i : Int) < (s.length : Int) := by omega
        clear ha hr2 hc
        go_wp2_with fail
        go_loopw [5] (fun u5 wx => ∃ (k : Nat) (f2 : UInt8 → Bool), k ≤ 256 ∧ u5 = .int .i64 k ∧ Hid (Blk wx g0 121 (setA fun _ => false)) ∧ Hid (Blk wx (g0 + 1) 121 (setA f2)) ∧ Hid (Below g0 w wx) ∧ Hid (∀ x, f2 x = (f x || decide (a.toNat ≤ x.toNat ∧ x.toNat < k))) ∧ Hid (a.toNat ≤ k ∧ (k ≤ c.toNat + 1 ∨ k = a.toNat))) (fun u5 _ => 256 - (intOf u5).toNat)
        case atStart => exact ⟨a.toNat, f, by omega, rfl, H0, H1, HB, hide (fun x => by
          have : ¬ (a.toNat ≤ x.toNat ∧ x.toNat < a.toNat) := by omega
          simp [this]), hide ⟨Nat.le_refl _, .inr rfl⟩⟩
        case round =>
          clear H0 H1 HB
          obtain ⟨k, f2, hk, rfl, H0, H1, HB, HF2, HK⟩ := hrel
          by_cases hkc : k ≤ c.toNat
          · have hkc' : (k : Int) ≤ (c.toNat : Int) := by omega
            have hk0 : (0 : Int) ≤ (k : Int) := by omega
            have hk1 : (k : Int) < 256 := by omega
            have hcell : wr.cell? ⟨g0 + 1, k, none⟩ = some (.bool (f2 (UInt8.ofNat k))) := by rw [H1.out.cell, setA_at' _ k (by omega)]
            have hfr := H1.out.frozen k
            go_wp2_with fail
            go_roundw
            case rel => exact ⟨k + 1, fun y => y.toNat == k || f2 y, by omega, by go_num, hide (H0.out.far (by simp) _), hide (by
              have := H1.out.set_ k (.bool true)
              rw [setA_set f2 k (by omega)] at this
              exact this), hide (HB.out.setCell (p := ⟨g0 + 1, k, none⟩) (by simp) _), hide (fun x => by
              show (x.toNat == k || f2 x) = _
              rw [HF2.out x, Bool.eq_iff_iff]
              have := HK.out.1
              simp only [Bool.or_eq_true, beq_iff_eq, decide_eq_true_eq]
              constructor
              · rintro (h | h | h)
                · exact .inr (by omega)
                · exact .inl h
                · exact .inr (by omega)
              · rintro (h | h)
                · exact .inr (.inl h)
                · by_cases e : x.toNat = k
                  · exact .inl e
                  · exact .inr (.inr (by omega))), hide ⟨by have := HK.out.1; omega, .inl (by omega)⟩⟩
            case measure => simp [intOf]; omega
          · have hkc' : ¬ (k : Int) ≤ (c.toNat : Int) := by omega
            go_wp2_with fail
            go_roundw
            case rel => exact ⟨i + 3, f2, by omega, by go_num, H0, H1, HB, hide (fun x => by
              rw [HF.out x, HR.out x, HF2.out x]
              have h1 := HK.out
              have : decide (a.toNat ≤ x.toNat ∧ x.toNat < k) = decide (a.toNat ≤ x.toNat ∧ x.toNat ≤ c.toNat) := by
                rw [decide_eq_decide]
                constructor <;> intro h <;> omega
              rw [this, Bool.or_assoc])⟩
            case measure => simp [intOf]; omega
      · have hcell : wr.cell? ⟨g0 + 1, a.toNat, none⟩ = some (.bool (f a)) := by rw [H1.out.cell, setA_at]
        have hfr := H1.out.frozen a.toNat
        have ha256 : a.toNat < 256 := a.toNat_lt
        have hi1 : (i : Int) < (s.length : Int) := by omega
        have HO := hide (itemsF_one s i a ha (by
          by_cases h : i + 2 < s.length
          · exact .inr (fun e => hr ⟨h, e⟩)
          · exact .inl (by omega)))
        have HREL : ∀ W : World, Hid (Blk W g0 121 (setA fun _ => false)) → Hid (Blk W (g0 + 1) 121 (setA f)) → Hid (Below g0 w W) → Hid (Blk (W.setCell ⟨g0 + 1, a.toNat, none⟩ (.bool true)) g0 121 (setA fun _ => false)) ∧ Hid (Blk (W.setCell ⟨g0 + 1, a.toNat, none⟩ (.bool true)) (g0 + 1) 121 (setA fun y => y.toNat == a.toNat || f y)) ∧ Hid (Below g0 w (W.setCell ⟨g0 + 1, a.toNat, none⟩ (.bool true))) := fun W h0 h1 hb => ⟨hide (h0.out.far (by simp) _), hide (by
            have := h1.out.set_ a.toNat (.bool true)
            rw [setA_set f a.toNat ha256] at this
            exact this), hide (hb.out.setCell (p := ⟨g0 + 1, a.toNat, none⟩) (by simp) _)⟩
        obtain ⟨r0, r1, r2⟩ := HREL wr H0 H1 HB
        have HF3 : Hid (∀ x, itemsF s x = ((x.toNat == a.toNat || f x) || itemsF (s.drop (i + 1)) x)) := hide (fun x => by
          rw [HF.out x, HO.out x]
          have : (x.toNat == a.toNat) = (x == a) := by
            rw [Bool.eq_iff_iff, beq_iff_eq, beq_iff_eq]
            exact ⟨fun h => UInt8.toNat_inj.1 h, fun h => by rw [h]⟩
          rw [this]
          cases (x == a) <;> cases f x <;> simp)
        have HN := hide hr
        clear HREL ha hr
        by_cases h2 : i + 2 < s.length
        · have hi2 : (i : Int) + 2 < (s.length : Int) := by omega
          obtain ⟨b, hb⟩ : ∃ b, s[i + 1]? = some b := ⟨_, List.getElem?_eq_getElem (by omega)⟩
          have hix1 : ∀ W, (Instr.index 9 (.string ⟨s.toArray⟩) (.int .i64 ((i : Int) + 1))).run Tryz.prog W = .ok (.int .u8 (b.toNat : Int)) W := fun W => by
            have := ix_l s (i + 1) b hb W
            push_cast at this
            exact this
          have hne : ((b.toNat : Int) == 45) = false := by
            have : b ≠ 45 := fun e => HN.out ⟨h2, by rw [hb, e]⟩
            have e2 := u8_eq b 45
            rw [beq_eq_false_iff_ne.2 this] at e2
            exact e2
          clear hb
          go_wp2_with fail
          go_roundw
          case rel => exact ⟨i + 1, _, by omega, by go_num, r0, r1, r2, HF3⟩
          case measure => simp [intOf]; omega
        · have hi2 : ¬ (i : Int) + 2 < (s.length : Int) := by omega
          go_wp2_with fail
          go_roundw
          case rel => exact ⟨i + 1, _, by omega, by go_num, r0, r1, r2, HF3⟩
          case measure => simp [intOf]; omega
    · obtain rfl : i = s.length := by omega
      have hE : setA f = setA (itemsF s) := setA_congr (fun x => by rw [HF.out x, itemsF_end s s.length (Nat.le_refl _)]; simp)
      have H1' : Hid (Blk wr (g0 + 1) 121 (setA (itemsF s))) := hide (by rw [← hE]; exact H1.out)
      clear hE
      have hst := store_set wr g0 (itemsF s) (fun _ => false) H0.out
      have hi51 : (Tryz.prog.info? 121).map (·.size) = some (setA (itemsF s)).size := by rw [setA_size]; exact zero51.2
      have HB2 := hide (blk_row wr g0 (setA (itemsF s)) _ 121 H0.out)
      have HBL := hide (below_setRow HB.out (Nat.le_refl _) (setA (itemsF s)))
      go_wp2_with (refine wpList_load_row rfl 121 (.tmp 3) rfl (g0 + 1) rfl 121 (setA (itemsF s)) (0, 0) _ H1'.out Tryz.underlying121 rfl hi51 ?_)
      first | rw [Exit.noGoto_ret] | trace_state
      refine bodyPost_ret (results_cell_row rfl _ _ g0 121 (setA (itemsF s)) (0, 0) _ rfl HB2.out Tryz.underlying121 rfl hi51) rfl ?_
      exact ⟨rfl, by rw [HG0.out]; exact HBL.out⟩
end Go.Proofs.YtaibmfahfkoahaaGreat
