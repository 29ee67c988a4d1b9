/- The contract of the document's match. -/
import Derived.Test.YtbphpijehfcbkaaDoorExY
import Derived.Test.YtbphpijehfcbkaaDoorMem
import Derived.Laws.OwnMore
import Derived.OneCell
import Derived.Deep.CutBlock
namespace Go.Proofs.YtbphpijehfcbkaaDoor
open Go.RowKit
set_option linter.unusedVariables false
def ivs (l : List Nat) : List Value := l.map fun (k : Nat) => .int .i64 (k : Int)
theorem ivs_length (l : List Nat) : (ivs l).length = l.length := by simp [ivs]
theorem infoInt : (Tryd.prog.info? 3).map (fun i => (i.zero, i.size, i.bytes)) = some (some (.int .i64 0), 1, 8) := by kernel_rfl
theorem sizeInt : (Tryd.prog.info? 3).map (·.size) = some 1 := by kernel_rfl
def Io (B : Nat) (w : World) (A : Option Addr) (n c : Nat) (l : List Nat) : Prop := w.ownsRow B 3 1 (.slice A n c) n (ivs l)
theorem Io.len {B : Nat} {w : World} {A : Option Addr} {n c : Nat} {l : List Nat} (h : Io B w A n c l) : l.length = n := by have := h.1; rw [ivs_length] at this; omega
theorem run_sizeOf_n {P : Program} {e : TypeId} {n : Nat} (hs : (P.info? e).map (·.size) = some n) (W : World) : (sizeOf e).run P W = .ok n W := by
  obtain ⟨i, hi, h1⟩ := Option.map_eq_some_iff.1 hs
  simp [sizeOf, typeInfo, hi, h1]
theorem int_at (g1 m k q : Nat) (i : Int) (hi : i = (q : Int)) (hq : q < m) (W : World) : (Instr.indexAt 53 (.slice (some ⟨g1, 0, none⟩) m k) (.int .i64 i)).run Tryd.prog W = .ok (.pointer (some ⟨g1, q, none⟩)) W := by
  subst hi
  have hE : Tryd.prog.elem 53 = 3 := by simp [Program.elem, Tryd.underlying53]
  rw [run_indexAt_slice W 53 ⟨g1, 0, none⟩ m k .i64 (q : Int) (slice_ht Tryd.underlying53), if_pos ⟨by omega, by omega⟩]
  rw [hE, run_sizeOf_n sizeInt W]
  simp only [Result.andThen, Int.toNat_natCast, at_add, Nat.zero_add, Nat.mul_one]
theorem Io.at_ {B : Nat} {w : World} {A : Option Addr} {n c : Nat} {l : List Nat} (h : Io B w A n c l) {k : Nat} (hk : k < l.length) : ∃ g, A = some ⟨g, 0, none⟩ ∧ w.cell? ⟨g, k, none⟩ = some (.int .i64 ((l.getD k 0 : Nat) : Int)) := by
  have hl := h.len
  obtain ⟨g, cap, hv, _, _⟩ := World.ownsRow.form h (by omega)
  injection hv with hv e2 e3
  subst hv
  refine ⟨g, rfl, ?_⟩
  rw [World.ownsRow.cellAt h k (by omega)]
  simp [ivs, hk, List.getD_eq_getElem?_getD]
section
variable {B : Nat} {w : World} {g n c : Nat} {l : List Nat}
theorem Io.set_ (h : Io B w (some ⟨g, 0, none⟩) n c l) (j v : Nat) : Io B (w.setCell ⟨g, j, none⟩ (.int .i64 (v : Int))) (some ⟨g, 0, none⟩) n c (l.set j v) := by
  have := (World.ownsRow.stored h j (.int .i64 (v : Int))).1
  unfold Io
  have e : ivs (l.set j v) = (ivs l).set j (.int .i64 (v : Int)) := by simp [ivs, List.map_set]
  rw [e]; exact this
theorem Io.other (h : Io B w (some ⟨g, 0, none⟩) n c l) {k j : Nat} (hk : g ≠ k) (u : Value) : Io B (w.setCell ⟨k, j, none⟩ u) (some ⟨g, 0, none⟩) n c l :=
  ownsRow_setCell_other h (by intro e; exact hk (by simpa [Value.ownBlock] using e)) u
theorem Io.cell (h : Io B w (some ⟨g, 0, none⟩) n c l) {k v : Nat} (hv : l[k]? = some v) : w.cell? ⟨g, k, none⟩ = some (.int .i64 (v : Int)) := by
  obtain ⟨hk, he⟩ := List.getElem?_eq_some_iff.1 hv
  obtain ⟨g', e, h2⟩ := h.at_ hk
  injection e with e
  injection e with e
  subst e
  rw [h2, List.getD_eq_getElem?_getD, hv]
  rfl
theorem Io.drewN (h : Io B w (some ⟨g, 0, none⟩) n c l) (k : Nat) : Io B (w.drewN k) (some ⟨g, 0, none⟩) n c l := h
theorem Io.lt (h : Io B w (some ⟨g, 0, none⟩) n c l) : g < w.heap.size := (World.ownsRow.lt h g rfl).2
end
theorem ints_make (n : Nat) (i : Int) (hi : i = (n : Int)) (hn : n ≤ 2000) (W : World) : (Instr.makeSlice 53 (.int .i64 i) (.int .i64 i)).run Tryd.prog W = .ok (.slice (some ⟨W.heap.size, 0, none⟩) n n) (W.alloc (.cells (madeCells #[.int .i64 0] n) 3)) := by
  subst hi
  obtain ⟨i, hi, hz0, hz1, hz2⟩ := info_parts infoInt
  have := run_make_rowN (P := Tryd.prog) 53 3 i _ Tryd.underlying53 hi hz0 .i64 .i64 n n (Nat.le_refl _) (by rw [hz2]; omega) (by omega) W
  rw [this, hz1, Nat.mul_one]
  rfl
theorem made_ints {B : Nat} {W : World} (n : Nat) (hn : n ≤ 2000) (hB : B ≤ W.heap.size) : Io B (W.alloc (.cells (madeCells #[.int .i64 0] n) 3)) (some ⟨W.heap.size, 0, none⟩) n n (List.replicate n 0) := by
  have h := Blk.new W 3 (madeCells #[.int .i64 0] n)
  have := h.own hB (cap := n) (by unfold maxLen; omega) (size_madeCells _ _)
  unfold Io
  rw [toList_madeCells_one] at this
  have e : ivs (List.replicate n 0) = List.replicate n (.int .i64 0) := by simp [ivs]
  rw [e]; exact this
theorem row0_start (n : Nat) : (List.replicate (n + 1) 0).set n 1 = row0 n n := by
  apply List.ext_getElem?
  intro q
  rcases Nat.lt_or_ge n q with hq | hq
  · rw [List.getElem?_eq_none (by simp; omega), List.getElem?_eq_none (by rw [row0_len n _ (Nat.le_refl _)]; omega)]
  · rw [row0_get n n q (Nat.le_refl _) hq, List.getElem?_set, List.getElem?_replicate]
    by_cases hm : n = q
    · subst hm
      rw [if_pos rfl, if_pos (by simp), if_neg (by omega)]
    · rw [if_neg hm, if_pos (by omega), if_pos (by omega)]
theorem rowOk_get {es : List E} {row : List Nat} {t : LX} (h : RowOk es row t) {k : Nat} (hk : k ≤ (encs es).length) : ∃ v, row[k]? = some v := ⟨_, List.getElem?_eq_getElem (by rw [h.1]; omega)⟩
theorem rowIn_get {es : List E} {row : List Nat} {t : LX} {m : Nat} (h : RowIn es row t m) {k : Nat} (hk : k ≤ (encs es).length) : ∃ v, row[k]? = some v := ⟨_, List.getElem?_eq_getElem (by rw [h.1]; omega)⟩
set_option maxRecDepth 100000 in
set_option maxHeartbeats 16000000 in
theorem rmatch_any (es : List E) (hok : ∀ e ∈ es, e.ok) (hPos : Pos es) (s : LB) (hp : (encs es).length ≤ 1024) (hs : s.length ≤ 1024) (w : World) : Calls Tryd.prog 17 #[.string ⟨(encs es).toArray⟩, .string ⟨s.toArray⟩] w fun e w' => e = .returned (.bool (MM es s)) ∧ Below w.heap.size w w' := by
  obtain ⟨p, hpE⟩ : ∃ p, encs es = p := ⟨_, rfl⟩
  rw [hpE] at hp ⊢
  have HPE := hide hpE
  have HOK := hide hok
  have HPOS := hide hPos
  obtain ⟨B, hBE⟩ : ∃ B, w.heap.size = B := ⟨_, rfl⟩
  have HBE := hide hBE
  have hmk := ints_make (p.length + 1) ((p.length : Int) + 1) (by omega) (by omega)
  have HMK := hide hmk
  have HMD := hide (fun (W : World) (hB : B ≤ W.heap.size) => made_ints (B := B) (W := W) (p.length + 1) (by omega) hB)
  have kwp : IntKind.i64.wrap ((p.length : Int) + 1) = (p.length : Int) + 1 := by simp [IntKind.wrap, IntKind.bits, IntKind.signed]; omega
  have kwm : IntKind.i64.wrap ((p.length : Int) - 1) = (p.length : Int) - 1 := by simp [IntKind.wrap, IntKind.bits, IntKind.signed]; omega
  have kws : IntKind.i64.wrap ((s.length : Int) - 1) = (s.length : Int) - 1 := by simp [IntKind.wrap, IntKind.bits, IntKind.signed]; omega
  have HIX := hide (fun (i : Nat) (x : UInt8) (h : p[i]? = some x) => ix_l p i x h)
  have HIS := hide (fun (i : Nat) (x : UInt8) (h : s[i]? = some x) => ix_l s i x h)
  have HO0 := hide (HMD.out w (by omega))
  have HB0 : Hid (Below B w (w.alloc (.cells (madeCells #[.int .i64 0] (p.length + 1)) 3))) := hide (by rw [← hBE]; exact (Below.refl _ _).alloc (Nat.le_refl _) _)
  have hia := fun W => int_at B (p.length + 1) (p.length + 1) p.length (p.length : Int) rfl (by omega) W
  have HLEN := hide hp
  obtain ⟨W0, hW0⟩ : ∃ W, w.alloc (.cells (madeCells #[.int .i64 0] (p.length + 1)) 3) = W := ⟨_, rfl⟩
  rw [hW0] at HO0 HB0
  rw [hBE] at HO0
  have hmk0 : (Instr.makeSlice 53 (.int .i64 ((p.length : Int) + 1)) (.int .i64 ((p.length : Int) + 1))).run Tryd.prog w = .ok (.slice (some ⟨B, 0, none⟩) (p.length + 1) (p.length + 1)) W0 := by rw [hmk w, hBE, hW0]
  have hc0 : W0.cell? ⟨B, p.length, none⟩ = some (.int .i64 0) := Io.cell HO0.out (v := 0) (by rw [List.getElem?_replicate, if_pos (by omega)])
  have hf0 : W0.frozen? ⟨B, p.length, none⟩ = false := World.ownsRow.frozenAt HO0.out p.length
  have hg0 : B < W0.heap.size := Io.lt HO0.out
  have HO1 := hide (Io.set_ HO0.out p.length 1)
  rw [row0_start] at HO1
  have HB1 : Hid (Below B w (W0.setCell ⟨B, p.length, none⟩ (.int .i64 ((1 : Nat) : Int)))) := hide (HB0.out.setCell (p := ⟨B, p.length, none⟩) (Nat.le_refl _) _)
  clear hW0 hmk hpE hok hBE hPos HO0 HB0
  go_enter Tryd.func17, Tryd.ntmps17
  go_upto_block 0 with (fail)
  clear hmk0 hia hc0 hf0
  go_cut [6] (fun u6 wx => ∃ m : Nat, m ≤ p.length ∧ Hid (∀ q, m ≤ q → q < p.length → p[q]? = some 42) ∧ Hid (m = 0 ∨ p[m - 1]? ≠ some 42) ∧ Hid (Below B w wx) ∧ Hid (Io B wx (some ⟨B, 0, none⟩) (p.length + 1) (p.length + 1) (row0 p.length m)))
  case first =>
    go_wp2_with fail
    go_loopw [6] (fun u6 wx => ∃ m : Nat, m ≤ p.length ∧ u6 = .int .i64 ((m : Int) - 1) ∧ Hid (∀ q, m ≤ q → q < p.length → p[q]? = some 42) ∧ Hid (Below B w wx) ∧ Hid (Io B wx (some ⟨B, 0, none⟩) (p.length + 1) (p.length + 1) (row0 p.length m))) (fun u6 _ => (intOf u6 + 1).toNat)
    case atStart => exact ⟨p.length, Nat.le_refl _, rfl, hide (fun q h1 h2 => by omega), HB1, HO1⟩
    case round =>
      clear HB1 HO1
      obtain ⟨m, hm, rfl, HQ, HB, HO⟩ := hrel
      cases m with
      | zero =>
        have k1 : ¬ (0 : Int) ≤ ((0 : Nat) : Int) - 1 := by omega
        go_wp2_with fail
        go_meet
        exact ⟨0, hm, HQ, hide (Or.inl rfl), HB, HO⟩
      | succ i =>
        have e1 : ((i + 1 : Nat) : Int) - 1 = (i : Int) := by omega
        rw [e1]
        obtain ⟨x, hx⟩ : ∃ x, p[i]? = some x := ⟨_, List.getElem?_eq_getElem (by omega)⟩
        have hix := HIX.out i x hx
        have k0 : (0 : Int) ≤ (i : Int) := by omega
        have t42 := u8_beq x 42
        change ((x.toNat : Int) == 42) = _ at t42
        have HX := hide hx
        clear hx e1
        by_cases hx42 : x = 42
        · rw [beq_iff_eq.2 hx42] at t42
          have hQ2 : ∀ q, i ≤ q → q < p.length → p[q]? = some 42 := fun q h1 h2 => by
            by_cases hq : q = i
            · rw [hq, HX.out, hx42]
            · exact HQ.out q (by omega) h2
          have HQ2 := hide hQ2
          have hia := fun W => int_at B (p.length + 1) (p.length + 1) i (i : Int) rfl (by omega) W
          have hr := row0_get p.length (i + 1) i hm (by omega)
          have hc := Io.cell HO.out hr
          have hf : wr.frozen? ⟨B, i, none⟩ = false := World.ownsRow.frozenAt HO.out i
          have hg := Io.lt HO.out
          have HO2 := hide (Io.set_ HO.out i 1)
          rw [row0_set p.length i hm] at HO2
          have HB2 : Hid (Below B w (wr.setCell ⟨B, i, none⟩ (.int .i64 ((1 : Nat) : Int)))) := hide (HB.out.setCell (p := ⟨B, i, none⟩) (Nat.le_refl _) _)
          have kwi : IntKind.i64.wrap ((i : Int) - 1) = (i : Int) - 1 := by simp [IntKind.wrap, IntKind.bits, IntKind.signed]; omega
          clear hx42 hQ2 hr HO HB HQ
          go_wp2_with fail
          go_roundw
          case rel => exact ⟨i, by omega, rfl, HQ2, HB2, HO2⟩
          case measure => simp [intOf]; try omega
        · rw [beq_eq_false_iff_ne.2 hx42] at t42
          have HN : Hid (i + 1 = 0 ∨ p[i + 1 - 1]? ≠ some 42) := hide (Or.inr (by
            rw [show i + 1 - 1 = i by omega, HX.out]
            intro h
            injection h with h
            exact hx42 h))
          clear hx42
          go_wp2_with fail
          go_meet
          exact ⟨i + 1, hm, HQ, HN, HB, HO⟩
  case rest =>
    clear HB1 HO1 hg0
    obtain ⟨m0, hm0, HQ, HN, HB, HO⟩ := hcut
    have hR0 : RowOk es (row0 p.length m0) [] := by
      have := row0_ok es HOK.out m0 (by rw [HPE.out]; exact hm0) (by rw [HPE.out]; exact HQ.out) (by rw [HPE.out]; exact HN.out)
      rw [HPE.out] at this
      exact this
    have HR0 := hide hR0
    clear HQ HN hR0
    go_wp2_with fail
    go_loopw [5, 7] (fun u5 u7 wx => ∃ (m g : Nat) (row : List Nat), m ≤ s.length ∧ B ≤ g ∧ u5 = .slice (some ⟨g, 0, none⟩) (p.length + 1) (p.length + 1) ∧ u7 = .int .i64 ((m : Int) - 1) ∧ Hid (RowOk es row (s.drop m)) ∧ Hid (Below B w wx) ∧ Hid (Io B wx (some ⟨g, 0, none⟩) (p.length + 1) (p.length + 1) row)) (fun _ u7 _ => (intOf u7 + 1).toNat)
    case atStart => exact ⟨s.length, B, _, Nat.le_refl _, Nat.le_refl _, rfl, rfl, hide (by rw [List.drop_length]; exact HR0.out), HB, HO⟩
    case round =>
      clear HR0 HB HO
      obtain ⟨m, g, row, hm, hg, rfl, rfl, HR, HB, HO⟩ := hrel
      cases m with
      | zero =>
        have k1 : ¬ (0 : Int) ≤ ((0 : Nat) : Int) - 1 := by omega
        obtain ⟨v, hv⟩ := rowOk_get HR.out (k := 0) (Nat.zero_le _)
        have hc := Io.cell HO.out hv
        have hia := fun W => int_at g (p.length + 1) (p.length + 1) 0 0 rfl (by omega) W
        have hd := row_done HR.out hv
        rw [List.drop_zero] at hd
        have hvb : ((v : Int) == 1) = MM es s := by
          rw [Bool.eq_iff_iff, beq_iff_eq, ← hd]; omega
        have HVB := hide hvb
        clear hv hd HR hvb
        go_wp2_with fail
        go_ret
        exact ⟨by first | rfl | (rw [HVB.out]; rfl), by rw [HBE.out]; exact HB.out⟩
      | succ m =>
        have e1 : ((m + 1 : Nat) : Int) - 1 = (m : Int) := by omega
        rw [e1]
        obtain ⟨x, hx⟩ : ∃ x, s[m]? = some x := ⟨_, List.getElem?_eq_getElem (by omega)⟩
        have hixs := HIS.out m x hx
        have hsd : s.drop m = x :: s.drop (m + 1) := by
          obtain ⟨q1, q2⟩ := List.getElem?_eq_some_iff.1 hx
          rw [List.drop_eq_getElem_cons q1, q2]
        have HSD := hide hsd
        have k0 : (0 : Int) ≤ (m : Int) := by omega
        have kwsm : IntKind.i64.wrap ((m : Int) - 1) = (m : Int) - 1 := by simp [IntKind.wrap, IntKind.bits, IntKind.signed]; omega
        obtain ⟨t, ht⟩ : ∃ t, s.drop (m + 1) = t := ⟨_, rfl⟩
        rw [ht] at HR HSD
        have hbw : B ≤ wr.heap.size := by have := Io.lt HO.out; omega
        have hgl := Io.lt HO.out
        have HM0 := hide (HMD.out wr hbw)
        obtain ⟨W1, hW1⟩ : ∃ W, wr.alloc (.cells (madeCells #[.int .i64 0] (p.length + 1)) 3) = W := ⟨_, rfl⟩
        obtain ⟨k, hk⟩ : ∃ k, wr.heap.size = k := ⟨_, rfl⟩
        have hmk0 : (Instr.makeSlice 53 (.int .i64 ((p.length : Int) + 1)) (.int .i64 ((p.length : Int) + 1))).run Tryd.prog wr = .ok (.slice (some ⟨k, 0, none⟩) (p.length + 1) (p.length + 1)) W1 := by rw [HMK.out wr, hk, hW1]
        have HON : Hid (Io B W1 (some ⟨g, 0, none⟩) (p.length + 1) (p.length + 1) row) := hide (by rw [← hW1]; exact World.ownsRow.alloc HO.out _)
        have HBN : Hid (Below B w W1) := hide (by rw [← hW1]; exact HB.out.alloc hbw _)
        rw [hW1, hk] at HM0
        rw [hk] at hbw hgl
        have hgk : g ≠ k := by omega
        have HST : Hid (RowIn es (List.replicate (p.length + 1) 0) (x :: t) p.length) := hide (by
          have := rowIn_start es x t
          rwa [HPE.out] at this)
        clear hx hsd ht hW1 hk HB HO e1
        go_wp2_with fail
        clear hmk0
        go_loopw [9] (fun u9 wx => ∃ (a : Nat) (now : List Nat), a ≤ p.length ∧ u9 = .int .i64 ((a : Int) - 1) ∧ Hid (RowIn es now (x :: t) a) ∧ Hid (Below B w wx) ∧ Hid (Io B wx (some ⟨g, 0, none⟩) (p.length + 1) (p.length + 1) row) ∧ Hid (Io B wx (some ⟨k, 0, none⟩) (p.length + 1) (p.length + 1) now)) (fun u9 _ => (intOf u9 + 1).toNat)
        case atStart => exact ⟨p.length, _, Nat.le_refl _, rfl, HST, HBN, HON, HM0⟩
        case round =>
          clear HST HBN HON HM0
          obtain ⟨a, now, ha, rfl, HI, HB, HO, HW⟩ := hrel
          cases a with
          | zero =>
            have k1 : ¬ (0 : Int) ≤ ((0 : Nat) : Int) - 1 := by omega
            have HR2 : Hid (RowOk es now (s.drop m)) := hide (by rw [HSD.out]; exact rowIn_end HI.out)
            clear HI HR
            go_wp2_with fail
            go_roundw
            case rel => exact ⟨m, k, now, by omega, hbw, rfl, rfl, HR2, HB, HW⟩
            case measure => simp [intOf]; try omega
          | succ i =>
            have e1 : ((i + 1 : Nat) : Int) - 1 = (i : Int) := by omega
            rw [e1]
            obtain ⟨y, hy⟩ : ∃ y, p[i]? = some y := ⟨_, List.getElem?_eq_getElem (by omega)⟩
            have hix := HIX.out i y hy
            have ki : (0 : Int) ≤ (i : Int) := by omega
            have kwi : IntKind.i64.wrap ((i : Int) - 1) = (i : Int) - 1 := by simp [IntKind.wrap, IntKind.bits, IntKind.signed]; omega
            have kwi1 : IntKind.i64.wrap ((i : Int) + 1) = (i : Int) + 1 := by simp [IntKind.wrap, IntKind.bits, IntKind.signed]; omega
            have t42 := u8_beq y 42
            change ((y.toNat : Int) == 42) = _ at t42
            have HY := hide hy
            have hfW : ∀ j, wr.frozen? ⟨k, j, none⟩ = false := fun j => World.ownsRow.frozenAt HW.out j
            obtain ⟨c0, hc0⟩ := rowIn_get HI.out (k := i) (by rw [HPE.out]; omega)
            have hcW := Io.cell HW.out hc0
            have hkl := Io.lt HW.out
            have hik := fun W => int_at k (p.length + 1) (p.length + 1) i (i : Int) rfl (by omega) W
            clear hy e1 hc0
            by_cases hy42 : y = 42
            · rw [beq_iff_eq.2 hy42] at t42
              obtain ⟨va, hva⟩ := rowIn_get HI.out (k := i + 1) (by rw [HPE.out]; omega)
              obtain ⟨vb, hvb⟩ := rowOk_get HR.out (k := i) (by rw [HPE.out]; omega)
              have hca := Io.cell HW.out hva
              have hcb := Io.cell HO.out hvb
              have hik1 := fun W => int_at k (p.length + 1) (p.length + 1) (i + 1) ((i : Int) + 1) (by omega) (by omega) W
              have hig := fun W => int_at g (p.length + 1) (p.length + 1) i (i : Int) rfl (by omega) W
              have hv := star_val HI.out HR.out hva hvb (by rw [HPE.out, HY.out, hy42]) HOK.out
              have HI2 := hide (rowIn_step HI.out (by rw [HPE.out]; omega) hv)
              have HW2 := hide (Io.set_ HW.out i (max va vb))
              have HO2 := hide (Io.other HO.out hgk (j := i) (.int .i64 ((max va vb : Nat) : Int)))
              have HB2 : Hid (Below B w (wr.setCell ⟨k, i, none⟩ (.int .i64 ((max va vb : Nat) : Int)))) := hide (HB.out.setCell (p := ⟨k, i, none⟩) hbw _)
              have emx : ((max va vb : Nat) : Int) = max (va : Int) (vb : Int) := by omega
              rw [emx] at HW2 HO2 HB2
              have HFW := hide (hfW i)
              clear hy42 hva hvb hv HI HW HO HB emx hfW
              go_wp2_with fail
              refine wp_region_M (fun V => V.cell? ⟨k, i + 1, none⟩ = some (.int .i64 (va : Int)) ∧ V.cell? ⟨g, i, none⟩ = some (.int .i64 (vb : Int))) 13 rfl ⟨hca, hcb⟩ (fun hHeld => ?_)
              refine wpAnyM_take (i := 0) (v := ?_) rfl rfl (by kernel_rfl) (fun _ _ _ h => h) (Or.inl ⟨by rfl, ?_⟩) (by assumption) ?_
              rotate_left
              · (intro V hV; (try dsimp only at hV); go_simp; with_reducible rfl)
              try simp only [Act.put, List.setIfInBounds_toArray, List.set_cons_zero, List.set_cons_succ]
              refine wpAnyM_take (i := 1) (v := ?_) rfl rfl (by kernel_rfl) (fun _ _ _ h => h) (Or.inl ⟨by rfl, ?_⟩) (by assumption) ?_
              rotate_left
              · (intro V hV; (try dsimp only at hV); go_simp; with_reducible rfl)
              try simp only [Act.put, List.setIfInBounds_toArray, List.set_cons_zero, List.set_cons_succ]
              refine wpAnyM_take (i := 2) (v := ?_) rfl rfl (by kernel_rfl) (fun _ _ _ h => h) (Or.inl ⟨by rfl, ?_⟩) (by assumption) ?_
              rotate_left
              · (intro V hV; (try dsimp only at hV); go_simp; with_reducible rfl)
              try simp only [Act.put, List.setIfInBounds_toArray, List.set_cons_zero, List.set_cons_succ]
              refine wpAnyM_take (i := 3) (v := ?_) rfl rfl (by kernel_rfl) (fun _ _ _ h => h) (Or.inl ⟨by rfl, ?_⟩) (by assumption) ?_
              rotate_left
              · (intro V hV; (try dsimp only at hV); go_simp; with_reducible rfl)
              try simp only [Act.put, List.setIfInBounds_toArray, List.set_cons_zero, List.set_cons_succ]
              refine wpAnyM_take (i := 4) (v := ?_) rfl rfl (by kernel_rfl) (fun _ _ _ h => h) (Or.inl ⟨by rfl, ?_⟩) (by assumption) ?_
              rotate_left
              · (intro V hV; (try dsimp only at hV); go_simp; with_reducible rfl)
              try simp only [Act.put, List.setIfInBounds_toArray, List.set_cons_zero, List.set_cons_succ]
              refine wpAnyM_take (i := 5) (v := ?_) rfl rfl (by kernel_rfl) (fun _ _ _ h => h) (Or.inl ⟨by rfl, ?_⟩) (by assumption) ?_
              rotate_left
              · (intro V hV; (try dsimp only at hV); go_simp; with_reducible rfl)
              try simp only [Act.put, List.setIfInBounds_toArray, List.set_cons_zero, List.set_cons_succ]
              refine wpAnyM_take (i := 6) (v := ?_) rfl rfl (by kernel_rfl) (fun _ _ _ h => h) (Or.inl ⟨by rfl, ?_⟩) (by assumption) ?_
              rotate_left
              · (intro V hV; (try dsimp only at hV); go_simp; with_reducible rfl)
              try simp only [Act.put, List.setIfInBounds_toArray, List.set_cons_zero, List.set_cons_succ]
              refine wpAnyM_take (i := 7) (v := ?_) rfl rfl (by kernel_rfl) (fun _ _ _ h => h) (Or.inl ⟨by rfl, ?_⟩) (by assumption) ?_
              rotate_left
              · (intro V hV; (try dsimp only at hV); go_simp; with_reducible rfl)
              try simp only [Act.put, List.setIfInBounds_toArray, List.set_cons_zero, List.set_cons_succ]
              refine wpAnyM_take (i := 8) (v := ?_) rfl rfl (by kernel_rfl) (fun _ _ _ h => h) (Or.inl ⟨by rfl, ?_⟩) (by assumption) ?_
              rotate_left
              · (intro V hV; (try dsimp only at hV); go_simp; with_reducible rfl)
              try simp only [Act.put, List.setIfInBounds_toArray, List.set_cons_zero, List.set_cons_succ]
              refine wpAnyM_take (i := 9) (v := ?_) rfl rfl (by kernel_rfl) (fun _ _ _ h => h) (Or.inl ⟨by rfl, ?_⟩) (by assumption) ?_
              rotate_left
              · (intro V hV; (try dsimp only at hV); go_simp; with_reducible rfl)
              try simp only [Act.put, List.setIfInBounds_toArray, List.set_cons_zero, List.set_cons_succ]
              refine wpAnyM_take (i := 10) (v := ?_) rfl rfl (by kernel_rfl) (fun _ _ _ h => h) (Or.inl ⟨by rfl, ?_⟩) (by assumption) ?_
              rotate_left
              · (intro V hV; (try dsimp only at hV); go_simp; with_reducible rfl)
              try simp only [Act.put, List.setIfInBounds_toArray, List.set_cons_zero, List.set_cons_succ]
              refine wpAnyM_take (i := 11) (v := ?_) rfl rfl (by kernel_rfl) (fun _ _ _ h => h) (Or.inl ⟨by rfl, ?_⟩) (by assumption) ?_
              rotate_left
              · (intro V hV; (try dsimp only at hV); go_simp; with_reducible rfl)
              try simp only [Act.put, List.setIfInBounds_toArray, List.set_cons_zero, List.set_cons_succ]
              refine wpAnyM_take (i := 12) (v := ?_) rfl rfl (by kernel_rfl) (fun _ _ _ h => h) (Or.inl ⟨by rfl, ?_⟩) (by assumption) ?_
              rotate_left
              · (intro V hV; (try dsimp only at hV); go_simp; with_reducible rfl)
              try simp only [Act.put, List.setIfInBounds_toArray, List.set_cons_zero, List.set_cons_succ]
              refine wpAnyM_step (i := 13) (by kernel_rfl) rfl rfl (fun K hK => ?_)
              have hfi := HFW.out
              go_simp
              refine hK.out _ _ (fun h => absurd rfl h) ?_
              refine wpAnyM_done (by kernel_rfl) ?_ _
              clear hK K hHeld hca hcb hik1 hig hik hcW
              have hbw' := hbw
              go_wp2_with fail
              go_roundw
              case rel => exact ⟨i, _, by omega, rfl, HI2, hide (below_drewN HB2.out 1), hide (Io.drewN HO2.out 1), hide (Io.drewN HW2.out 1)⟩
              case measure => simp [intOf]; try omega
            · rw [beq_eq_false_iff_ne.2 hy42] at t42
              have H42 := hide hy42
              have XO := hide (fun W => one_any p i x (by omega) (by omega) W)
              clear hy42
              go_wp2_with fail
              refine (XO.out wr).mono ?_
              rintro e w1 ⟨en, ok, nd, rfl, rfl, h1⟩
              have hov := one_val (es := es) HR.out (i := i) (x := x) (t := t) (by rw [HPE.out, HY.out]; intro h; injection h with h; exact H42.out h) HOK.out HPOS.out (by rw [HPE.out]; exact h1)
              have hen : en ≤ p.length := h1.2.1
              obtain ⟨vb, hvb⟩ := rowOk_get HR.out (k := en) (by rw [HPE.out]; omega)
              have hcb : (wr.drewN nd).cell? ⟨g, en, none⟩ = some (.int .i64 (vb : Int)) := Io.cell (Io.drewN HO.out nd) hvb
              have hcW' : (wr.drewN nd).cell? ⟨k, i, none⟩ = some (.int .i64 (c0 : Int)) := hcW
              have hfW' : (wr.drewN nd).frozen? ⟨k, i, none⟩ = false := hfW i
              have hkl' : k < (wr.drewN nd).heap.size := hkl
              have HBD : Hid (Below B w (wr.drewN nd)) := hide (below_drewN HB.out nd)
              have hig := fun W => int_at g (p.length + 1) (p.length + 1) en (en : Int) rfl (by omega) W
              cases ok with
              | true =>
                have HI2 := hide (rowIn_step HI.out (v := vb) (by rw [HPE.out]; omega) (fun j hj hpj => by
                  have := (hov j hj hpj).1 rfl
                  rw [hvb] at this
                  injection this))
                have HW2 := hide (Io.set_ (Io.drewN HW.out nd) i vb)
                have HO2 := hide (Io.other (Io.drewN HO.out nd) hgk (j := i) (.int .i64 (vb : Int)))
                have HB2 : Hid (Below B w ((wr.drewN nd).setCell ⟨k, i, none⟩ (.int .i64 (vb : Int)))) := hide (HBD.out.setCell (p := ⟨k, i, none⟩) hbw _)
                clear hov h1 hvb XO HI HW HO HB hfW hcW
                go_wp2_with fail
                go_roundw
                case rel => exact ⟨i, _, by omega, rfl, HI2, HB2, HO2, HW2⟩
                case measure => simp [intOf]; try omega
              | false =>
                have HI2 := hide (rowIn_skip HI.out (by rw [HPE.out]; omega) (fun j hj hpj => (hov j hj hpj).2 rfl))
                have HO2 := hide (Io.drewN HO.out nd)
                have HW2 := hide (Io.drewN HW.out nd)
                clear hov h1 hvb XO HI HW HO HB hfW hcW
                go_wp2_with fail
                go_roundw
                case rel => exact ⟨i, _, by omega, rfl, HI2, HBD, HO2, HW2⟩
                case measure => simp [intOf]; try omega
theorem rMatch_any (es : List E) (hok : ∀ e ∈ es, e.ok) (hPos : Pos es) (s : LB) (hp : (encs es).length ≤ 1024) (hs : s.length ≤ 1024) (w : World) : Calls Tryd.prog 7 #[.string ⟨(encs es).toArray⟩, .string ⟨s.toArray⟩] w fun e w' => e = .returned (.bool (MM es s)) ∧ Below w.heap.size w w' := by
  have XM := hide (rmatch_any es hok hPos s hp hs w)
  have k1 : ((encs es).length : Int) ≤ 1024 := by omega
  have k2 : (s.length : Int) ≤ 1024 := by omega
  generalize encs es = p at *
  clear hok hPos
  go_enter Tryd.func7, Tryd.ntmps7
  go_wp2_with fail
  refine XM.out.mono ?_
  rintro e w1 ⟨rfl, hb⟩
  go_wp2_with fail
  go_ret
  exact ⟨rfl, hb⟩
end Go.Proofs.YtbphpijehfcbkaaDoor
