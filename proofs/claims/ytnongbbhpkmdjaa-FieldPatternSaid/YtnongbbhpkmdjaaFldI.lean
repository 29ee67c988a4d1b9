/- The contract of Line. -/
import Derived.Test.YtnongbbhpkmdjaaFldG
import Derived.Test.YtnongbbhpkmdjaaFldN
namespace Go.Proofs.Ytnongbbhpkmdjaa
open Go.RowKit
set_option linter.unusedVariables false
/-- A store into a block that is none of the splitter's kinds. -/
theorem SS.other {B : Nat} {w : World} {g : Nat} {ifs : LB} {s : CS} {h : Hd} {X : Option (Nat × Array Value)} (H : SS B w g ifs X s h) {p : Addr} {cs : Array Value} (hg : Blk w p.block 9 cs) (u : Value) : SS B (w.setCell p u) g ifs X s h :=
  ⟨H.blk.far (Blk.ne_ H.blk hg (by decide)) u, H.km.kept (Below.heap_setCell w p u _ (H.km.ne hg)), H.fo.set_ hg (by decide) (by decide) u, own_set_blk H.go hg (by decide) u, own_set_blk H.po hg (by decide) u, own_set_blk H.to hg (by decide) u, H.hg, H.hm, H.ob.keep (K35.set_ hg (by decide) u)⟩
theorem zeroS_make (n : Nat) (hn : n ≤ 1000) (W : World) : (Instr.makeSlice 31 (.int .i64 (n : Int)) (.int .i64 (n : Int))).run Try.prog W = .ok (.slice (some ⟨W.heap.size, 0, none⟩) n n) (W.alloc (.cells (madeCells #[.string ⟨#[]⟩] n) 9)) := by
  obtain ⟨i, hi, hz0, hz1, hz2⟩ := info_parts infoStr
  have := run_make_rowN (P := Try.prog) 31 9 i _ Try.underlying31 hi hz0 .i64 .i64 n n (Nat.le_refl _) (by rw [hz2]; omega) (by omega) W
  rw [this, hz1, Nat.mul_one]
  rfl
theorem made_strs {B : Nat} {W : World} (n : Nat) (hn : n ≤ 1000) (hB : B ≤ W.heap.size) : Ow B (W.alloc (.cells (madeCells #[.string ⟨#[]⟩] n) 9)) (some ⟨W.heap.size, 0, none⟩) n n (List.replicate n []) := by
  have h := Blk.new W 9 (madeCells #[.string ⟨#[]⟩] n)
  have := h.own hB (cap := n) (by unfold maxLen; omega) (size_madeCells _ _)
  unfold Ow
  rw [toList_madeCells_one] at this
  have e : svs (List.replicate n []) = List.replicate n (.string ⟨#[]⟩) := by simp [svs, sv]
  rw [e]; exact this
theorem Ow.set_ {B : Nat} {w : World} {g n c : Nat} {ks : List Bs} (h : Ow B w (some ⟨g, 0, none⟩) n c ks) (j : Nat) (x : Bs) : Ow B (w.setCell ⟨g, j, none⟩ (.string ⟨x.toArray⟩)) (some ⟨g, 0, none⟩) n c (ks.set j x) := by
  have := (World.ownsRow.stored h j (.string ⟨x.toArray⟩)).1
  unfold Ow
  have e : svs (ks.set j x) = (svs ks).set j (.string ⟨x.toArray⟩) := by simp [svs, sv, List.map_set]
  rw [e]; exact this
theorem Ow.blk {B : Nat} {w : World} {g n c : Nat} {ks : List Bs} (h : Ow B w (some ⟨g, 0, none⟩) n c ks) (hn : 0 < n) : ∃ cs, Blk w g 9 cs := by
  obtain ⟨g', cap, cur, e, _, hh, _⟩ := h.2.resolve_left (fun ⟨e, _⟩ => by cases e)
  injection e with e
  injection e with e
  injection e with e
  subst e
  exact ⟨cur, hh⟩
theorem fd_at (g1 m k q : Nat) (i : Int) (hi : i = (q : Int)) (hq : q < m) (W : World) : (Instr.indexAt 25 (.slice (some ⟨g1, 0, none⟩) m k) (.int .i64 i)).run Try.prog W = .ok (.pointer (some ⟨g1, q, none⟩)) W := by
  subst hi
  have hE : Try.prog.elem 25 = 22 := by simp [Program.elem, Try.underlying25]
  rw [run_indexAt_slice W 25 ⟨g1, 0, none⟩ m k .i64 (q : Int) (slice_ht Try.underlying25), if_pos ⟨by omega, by omega⟩]
  rw [hE, run_sizeOf_n sizeFd W]
  simp only [Result.andThen, Int.toNat_natCast, at_add, Nat.zero_add, Nat.mul_one]
/-- A field of a row of fields. -/
theorem Fo.at_ {B : Nat} {w : World} {A : Option Addr} {n c : Nat} {fs : List Fd} {x : Option Nat} (h : Fo B w A n c fs x) {k : Nat} {f : Fd} (hf : fs[k]? = some f) :
    ∃ g A' n' c', A = some ⟨g, 0, none⟩ ∧ B ≤ g ∧ w.cell? ⟨g, k, none⟩ = some (.slice A' n' c') ∧ Reads w w.heap.size 4 A' n' (pvs (up f)) ∧ n' = f.length := by
  have hl := h.len
  obtain ⟨hk, he⟩ := List.getElem?_eq_some_iff.1 hf
  obtain ⟨vs, h1, h2, h3⟩ := h
  obtain ⟨g, cap, hv, _, _⟩ := h1.form (by omega)
  injection hv with hv e2 e3
  subst hv e3
  have hlv : k < vs.length := by rw [h2.1]; exact hk
  have hc := World.ownsRow.cellAt h1 k (by omega)
  rw [List.getElem?_eq_getElem hlv] at hc
  obtain ⟨A', n', c', e4, hr⟩ := h2.2 k vs[k] f (List.getElem?_eq_getElem hlv) hf
  have hfd : FdAt w (.slice A' n' c') f := by rw [← e4]; exact h2.2 k vs[k] f (List.getElem?_eq_getElem hlv) hf
  refine ⟨g, A', n', c', rfl, (World.ownsRow.lt h1 g rfl).1, by rw [hc, e4], hfd.reads.1, hfd.reads.2⟩
theorem Fo.cap {B : Nat} {w : World} {A : Option Addr} {n c : Nat} {fs : List Fd} {x : Option Nat} (h : Fo B w A n c fs x) : n ≤ c := by
  obtain ⟨vs, h1, h2, h3⟩ := h
  rcases h1.2 with ⟨hv, h0⟩ | ⟨g, cap, cur, hv, _, _, h1, h2, _⟩
  · injection hv with e1 e2 e3; subst e3; omega
  · injection hv with e1 e2 e3; subst e3; exact h1
theorem run_slice_fd (A : Option Addr) (len cap : Nat) (h : Int) (h0 : 0 ≤ h) (h1 : h ≤ cap) (W : World) : (Instr.slice 25 (.slice A len cap) none (some (.int .i64 h)) none).run Try.prog W = .ok (.slice A h.toNat cap) W :=
  run_slice_to 25 22 Try.underlying25 sizeFd A len cap .i64 h h0 h1 W
set_option maxHeartbeats 1000000 in
theorem line_no (s ifs : LB) (n : Int) (w : World) (h : n < 1 ∨ 100 < n) : Calls Try.prog 19 #[.string ⟨s.toArray⟩, .string ⟨ifs.toArray⟩, .int .i64 n] w fun e w' => e = .returned (.slice none 0 0) ∧ w = w' := by
  rcases h with h | h
  · go_enter Try.func19, Try.ntmps19
    go_wp2_with fail
    go_ret
    exact ⟨rfl, rfl⟩
  · have h' : ¬ n < 1 := by omega
    go_enter Try.func19, Try.ntmps19
    go_wp2_with fail
    go_ret
    exact ⟨rfl, rfl⟩
/-- The words so far. -/
def wayO (G : List Fd) (n i : Nat) : List LB := (G.take i).map txt ++ List.replicate (n - i) []
theorem wayO_step {G : List Fd} {n i : Nat} {f : Fd} (hf : G[i]? = some f) (hi : i < n) : (wayO G n i).set i (txt f) = wayO G n (i + 1) := by
  obtain ⟨hk, he⟩ := List.getElem?_eq_some_iff.1 hf
  unfold wayO
  rw [take_snoc' hf, List.map_append, List.append_assoc]
  have hl : ((G.take i).map txt).length = i := by simp; omega
  rw [List.set_append_right _ _ (by omega), hl, Nat.sub_self]
  congr 1
  rw [show n - i = (n - (i + 1)) + 1 by omega, List.replicate_succ]
  rfl
theorem wayO_end (G : List Fd) (n m : Nat) (h : m = min n G.length) : wayO G n m = lineO G n := by
  unfold wayO lineO
  subst h
  rcases Nat.le_total n G.length with h | h
  · rw [Nat.min_eq_left h, Nat.sub_self, Nat.sub_eq_zero_of_le h]
  · rw [Nat.min_eq_right h, List.take_of_length_le (Nat.le_refl _), List.take_of_length_le h]
theorem sl_from (p : LB) (a : Nat) (ha : a ≤ p.length) (W : World) : (Instr.slice 9 (.string ⟨p.toArray⟩) (some (.int .i64 (a : Int))) none none).run Try.prog W = .ok (.string ⟨(p.drop a).toArray⟩) W := by
  rw [run_slice_string_l W 9 ⟨p.toArray⟩ Try.underlying9 .i64 (a : Int) (by omega) (by show (a : Int) ≤ ((p.length : Nat) : Int); omega), Int.toNat_natCast]
  exact congrArg (fun x => Result.ok (Value.string x) W) (ext_from p a)
theorem sl_to (p : LB) (b : Nat) (j : Int) (hj : j = (b : Int)) (hb : b ≤ p.length) (W : World) : (Instr.slice 9 (.string ⟨p.toArray⟩) none (some (.int .i64 j)) none).run Try.prog W = .ok (.string ⟨(p.take b).toArray⟩) W := by
  subst hj
  rw [run_slice_string_h W 9 ⟨p.toArray⟩ Try.underlying9 .i64 (b : Int) (by omega) (by show (b : Int) ≤ ((p.length : Nat) : Int); omega), Int.toNat_natCast, ext_two]
  rfl
theorem int_at (g1 m k q : Nat) (i : Int) (hi : i = (q : Int)) (hq : q < m) (W : World) : (Instr.indexAt 40 (.slice (some ⟨g1, 0, none⟩) m k) (.int .i64 i)).run Try.prog W = .ok (.pointer (some ⟨g1, q, none⟩)) W := by
  subst hi
  have hE : Try.prog.elem 40 = 3 := by simp [Program.elem, Try.underlying40]
  rw [run_indexAt_slice W 40 ⟨g1, 0, none⟩ m k .i64 (q : Int) (slice_ht Try.underlying40), if_pos ⟨by omega, by omega⟩]
  rw [hE, run_sizeOf_n sizeInt W]
  simp only [Result.andThen, Int.toNat_natCast, at_add, Nat.zero_add, Nat.mul_one]
theorem str_at (g1 m k q : Nat) (i : Int) (hi : i = (q : Int)) (hq : q < m) (W : World) : (Instr.indexAt 31 (.slice (some ⟨g1, 0, none⟩) m k) (.int .i64 i)).run Try.prog W = .ok (.pointer (some ⟨g1, q, none⟩)) W := by
  subst hi
  have hE : Try.prog.elem 31 = 9 := by simp [Program.elem, Try.underlying31]
  rw [run_indexAt_slice W 31 ⟨g1, 0, none⟩ m k .i64 (q : Int) (slice_ht Try.underlying31), if_pos ⟨by omega, by omega⟩]
  rw [hE, run_sizeOf_n sizeStr W]
  simp only [Result.andThen, Int.toNat_natCast, at_add, Nat.zero_add, Nat.mul_one]
theorem Io.at_ {B : Nat} {w : World} {A : Option Addr} {n c : Nat} {l : List Nat} (h : Io B w A n c l) {k : Nat} (hk : k < l.length) : ∃ g, A = some ⟨g, 0, none⟩ ∧ w.cell? ⟨g, k, none⟩ = some (.int .i64 ((l.getD k 0 : Nat) : Int)) := by
  have hl := h.len
  obtain ⟨g, cap, hv, _, _⟩ := World.ownsRow.form h (by omega)
  injection hv with hv e2 e3
  subst hv
  refine ⟨g, rfl, ?_⟩
  rw [World.ownsRow.cellAt h k (by omega)]
  simp [ivs, hk, List.getD_eq_getElem?_getD]
/-- How long a text is. -/
def strLen : Value → Nat
  | .string b => b.size
  | _ => 0
set_option maxHeartbeats 16000000 in
set_option maxRecDepth 100000 in
theorem line_yes (s ifs : LB) (n : Nat) (w : World) (hs : s.length ≤ 20000) (hif : ifs.length ≤ 1000) (h1 : 1 ≤ n) (h2 : n ≤ 100) : Calls Try.prog 19 #[.string ⟨s.toArray⟩, .string ⟨ifs.toArray⟩, .int .i64 (n : Int)] w fun e w' => ∃ A c, e = .returned (.slice A n c) ∧ Ow w.heap.size w' A n c (lineP ifs s n) ∧ Below w.heap.size w w' := by
  have XK := hide (kinds_any ifs hif w)
  have k1 : ¬ (n : Int) < 1 := by omega
  have k2 : ¬ (100 : Int) < (n : Int) := by omega
  have hLE := endC_le ifs s
  have HLE := hide hLE
  have HTOT := hide (endC_tot ifs s)
  have HBIN := hide (begins_in ifs s)
  have HFL := hide (endC_fl ifs s)
  have HEND : Hid (endC ifs s = (softC ifs s CS0).close) := hide rfl
  have h00 : CS0.Le 0 := ⟨by simp [CS0], by simp [CS0], by simp [CS0], by simp [CS0], by simp [CS0]⟩
  have HLS : Hid ((softC ifs s CS0).Le 100000) := hide ((Le.soft ifs s h00).up (by omega))
  have H00 := hide h00
  clear hLE h00
  go_enter Try.func19, Try.ntmps19
  go_wp2_with fail
  refine XK.out.mono ?_
  rintro e w1 ⟨rfl, hk1, hb1⟩
  have HS0 := hide (SS0 w w1 ifs _ hk1 hb1.size)
  have hbz := hb1.size
  have HB1 := hide (hb1.alloc hb1.size (.cells #[.map (some w.heap.size), .slice none 0 0, .slice none 0 0, .slice none 0 0, .slice none 0 0, .bool false, .bool false, .int .i64 0] 43))
  clear hk1 hb1 XK
  go_wp2_with fail
  obtain ⟨g, hgE⟩ : ∃ g, w1.heap.size = g := ⟨_, rfl⟩
  obtain ⟨W0, hW0⟩ : ∃ W, w1.alloc (.cells #[.map (some w.heap.size), .slice none 0 0, .slice none 0 0, .slice none 0 0, .slice none 0 0, .bool false, .bool false, .int .i64 0] 43) = W := ⟨_, rfl⟩
  obtain ⟨B, hBE⟩ : ∃ B, w.heap.size = B := ⟨_, rfl⟩
  have hW0' := hW0
  rw [hBE] at hW0'
  (try rw [hW0'])
  (try rw [hW0])
  rw [hW0, hgE, hBE] at HS0
  rw [hW0, hBE] at HB1
  rw [hBE] at hbz
  (try rw [hgE])
  rw [hgE] at hbz
  have HBE := hide hBE
  clear hW0 hW0' hgE hBE w1
  have hbw0 : B ≤ W0.heap.size := by have := HB1.out.size; have := HS0.out.lt; omega
  have XS := hide (soft_any (X := none) B g ifs s CS0 W0 (H00.out.up (by omega)) (by omega) hbw0 ⟨_, HS0.out⟩)
  refine XS.out.mono ?_
  rintro e w2 ⟨rfl, hS2, hb2⟩
  have HB2 : Hid (Below B w w2) := hide (HB1.out.trans hb2)
  have hbw2 : B ≤ w2.heap.size := by have := hb2.size; omega
  have XC := hide (close_any (X := none) B g ifs (softC ifs s CS0) w2 (HLS.out.up (by omega)) hbw2 hS2)
  clear hS2 hb2 XS HB1 HS0 hbw0
  go_wp2_with fail
  refine XC.out.mono ?_
  rintro e w3 ⟨rfl, hS3, hb3⟩
  have HB3 : Hid (Below B w w3) := hide (HB2.out.trans hb3)
  have hbw3 : B ≤ w3.heap.size := by have := hb3.size; omega
  rw [← HEND.out] at hS3
  obtain ⟨E, hE⟩ : ∃ E, endC ifs s = E := ⟨_, rfl⟩
  have hLP : lineP ifs s n = (if n ≤ E.begins.length then (lineO E.fields n).set (n - 1) (trimP ifs (s.drop (E.begins.getD (n - 1) 0))) else lineO E.fields n) := by unfold lineP; rw [hE]
  rw [hE] at hS3 HLE HTOT HBIN HFL
  have HLP := hide hLP
  obtain ⟨h, H⟩ := hS3
  have HS3 := hide (H.below ((Below.refl _ _).alloc (Nat.le_refl _) (.cells (madeCells #[.string ⟨#[]⟩] n) 9)))
  have HO3 := hide (made_strs (B := B) (W := w3) n (by omega) hbw3)
  have HB4 := hide (HB3.out.alloc hbw3 (.cells (madeCells #[.string ⟨#[]⟩] n) 9))
  have hmk := zeroS_make n (by omega)
  clear H hb3 HB2 XC HEND hE hLP HLS H00
  have hnf := HS3.out.fo.len
  have hng := HS3.out.go.len
  have hfb : h.nf ≤ 100000 := by have := HLE.out.1; omega
  have hgb : h.ng ≤ 100000 := by have := HLE.out.2.1; omega
  have hfc := HS3.out.fo.cap
  have HNF := hide hnf
  have HNG := hide hng
  clear hnf hng
  obtain ⟨⟨c0, c1, c2, c3, c4, c5, c6, c7⟩, f0, f1, f2, f3, f4, f5, f6, f7⟩ := HS3.out.blk.eight
  have hgl := HS3.out.lt
  have hd : ∃ m : Nat, m = min n h.nf ∧ m ≤ h.nf ∧ m ≤ n ∧ (∀ W, (Instr.slice 25 (.slice h.F h.nf h.cf) none (some (.int .i64 (m : Int))) none).run Try.prog W = .ok (.slice h.F m h.cf) W) := by
    refine ⟨min n h.nf, rfl, Nat.min_le_right _ _, Nat.min_le_left _ _, fun W => ?_⟩
    rw [run_slice_fd h.F h.nf h.cf _ (by omega) (by have := Nat.min_le_right n h.nf; omega)]
    simp
  obtain ⟨m, hm, hmf, hmn, hsl⟩ := hd
  have HM := hide hm
  go_wp2_with fail
  have e1 : (min (n : Int) (h.nf : Int)).toNat = m := by have := HM.out; omega
  have e2 : max (min (n : Int) (h.nf : Int)) 0 = (m : Int) := by have := HM.out; omega
  rw [e1, e2]
  clear e1 e2 hm hsl c0 c1 c2 c3 c4 c5 c6 c7 f0 f1 f2 f3 f4 f5 f6 f7 hgl hmk
  obtain ⟨gO, hgO⟩ : ∃ x, w3.heap.size = x := ⟨_, rfl⟩
  obtain ⟨W4, hW4⟩ : ∃ W, w3.alloc (.cells (madeCells #[.string ⟨#[]⟩] n) 9) = W := ⟨_, rfl⟩
  rw [hW4, hgO] at HO3
  rw [hW4] at HS3 HB4 ⊢
  rw [hgO] at hbw3 ⊢
  clear hW4 hgO HB3 w3
  go_loopw [35] (fun u35 wx => ∃ i : Nat, i ≤ m ∧ u35 = .int .i64 (i : Int) ∧ Hid (Below B w wx) ∧ Hid (SS B wx g ifs none E h) ∧ Hid (Ow B wx (some ⟨gO, 0, none⟩) n n (wayO E.fields n i))) (fun u35 _ => m - (intOf u35).toNat)
  case atStart => exact ⟨0, Nat.zero_le _, rfl, HB4, HS3, hide (by
    have := HO3.out
    simpa [wayO] using this)⟩
  case round =>
    clear HS3 HO3 HB4
    obtain ⟨i, hi, rfl, HB, HS, HO⟩ := hrel
    have hbwr : B ≤ wr.heap.size := by have := HS.out.lt; have := HS.out.hg; omega
    by_cases hlt : i < m
    · have hfi : i < E.fields.length := by have := HNF.out; omega
      obtain ⟨f, hf⟩ : ∃ f, E.fields[i]? = some f := ⟨_, List.getElem?_eq_getElem hfi⟩
      obtain ⟨gF, A', n', c', hA, hBF, hcell, hrd, hn'⟩ := HS.out.fo.at_ hf
      have hia : ∀ W, (Instr.indexAt 25 (.slice h.F m h.cf) (.int .i64 (i : Int))).run Try.prog W = .ok (.pointer (some ⟨gF, i, none⟩)) W := fun W => by rw [hA]; exact fd_at gF m h.cf i (i : Int) rfl hlt W
      have htl : (txl (up f)).length ≤ 100000 := by
        rw [txl_up]
        have := sum_mem _ _ (List.mem_map.2 ⟨f, List.mem_of_getElem? hf, rfl⟩ : txt f ∈ E.fields.map txt)
        have := HTOT.out
        omega
      have hnb : n' ≤ 1000000 := by
        rw [hn']
        have := HFL.out.1 f (List.mem_of_getElem? hf)
        omega
      have XT := hide (text_any (up f) A' n' c' wr hrd hnb (by omega))
      have HSTEP := hide (wayO_step (n := n) hf (by omega))
      rw [txl_up] at XT
      have hcell' := hcell
      clear hrd hn' hf htl hA
      go_wp2_with fail
      refine XT.out.mono ?_
      rintro e w1 ⟨rfl, hb1⟩
      have HS1 := hide (HS.out.below hb1)
      have HO1 := hide (HO.out.below hb1)
      have HB1 : Hid (Below B w w1) := hide (below_more HB.out (Nat.le_of_eq HBE.out.symm) hb1)
      obtain ⟨csO, hcO⟩ := HO1.out.blk (by omega)
      have HCO := hide hcO
      have hgO := hcO.lt
      have hfr : w1.frozen? ⟨gO, i, none⟩ = false := World.ownsRow.frozenAt HO1.out i
      have HS2 : Hid (SS B (w1.setCell ⟨gO, i, none⟩ (.string ⟨(txt f).toArray⟩)) g ifs none E h) := hide (HS1.out.other (p := ⟨gO, i, none⟩) hcO _)
      have HO2 : Hid (Ow B (w1.setCell ⟨gO, i, none⟩ (.string ⟨(txt f).toArray⟩)) (some ⟨gO, 0, none⟩) n n (wayO E.fields n (i + 1))) := hide (by
        rw [← HSTEP.out]; exact HO1.out.set_ i (txt f))
      have HB2 : Hid (Below B w (w1.setCell ⟨gO, i, none⟩ (.string ⟨(txt f).toArray⟩))) := hide (HB1.out.setCell (p := ⟨gO, i, none⟩) hbw3 _)
      have hlO : ∃ old, w1.cell? ⟨gO, i, none⟩ = some old := by
        have hl := HO1.out.len
        have hc := World.ownsRow.cellAt HO1.out i (by omega)
        rw [svs_get _ i (by omega)] at hc
        exact ⟨_, hc⟩
      obtain ⟨old, hold⟩ := hlO
      clear hb1 hcO XT HS HO HB
      go_wp2_with fail
      go_roundw
      case rel => exact ⟨i + 1, by omega, by go_num, HB2, HS2, HO2⟩
      case measure => simp [intOf]; omega
    · have hlt' : ¬ (i : Int) < (m : Int) := by omega
      have HO2 : Hid (Ow B wr (some ⟨gO, 0, none⟩) n n (lineO E.fields n)) := hide (by
        have e : i = min n E.fields.length := by have := HM.out; have := HNF.out; omega
        rw [← wayO_end E.fields n i e]; exact HO.out)
      obtain ⟨⟨c0, c1, c2, c3, c4, c5, c6, c7⟩, f0, f1, f2, f3, f4, f5, f6, f7⟩ := HS.out.blk.eight
      have hgl := HS.out.lt
      clear HO HM
      by_cases hbg : n ≤ h.ng
      · have hbl : n - 1 < E.begins.length := by have := HNG.out; omega
        obtain ⟨gG, hG, hgc⟩ := HS.out.go.at_ hbl
        obtain ⟨bg, hbgE⟩ : ∃ x, E.begins.getD (n - 1) 0 = x := ⟨_, rfl⟩
        have hbin : bg ≤ s.length := by
          rw [← hbgE, List.getD_eq_getElem?_getD, List.getElem?_eq_getElem hbl]
          exact HBIN.out _ (List.getElem_mem hbl)
        have hLP : lineP ifs s n = (lineO E.fields n).set (n - 1) (trimP ifs (s.drop bg)) := by rw [HLP.out, if_pos (by have := HNG.out; omega), hbgE]
        have HLP2 := hide hLP
        rw [hbgE] at hgc
        have hib : ∀ W, (Instr.indexAt 40 (.slice h.G h.ng h.cg) (.int .i64 ((n : Int) - 1))).run Try.prog W = .ok (.pointer (some ⟨gG, n - 1, none⟩)) W := fun W => by rw [hG]; exact int_at gG h.ng h.cg (n - 1) ((n : Int) - 1) (by omega) (by omega) W
        have hsf := fun W => sl_from s bg hbin W
        have hw1 : IntKind.i64.wrap ((n : Int) - 1) = (n : Int) - 1 := by simp [IntKind.wrap, IntKind.bits, IntKind.signed]; omega
        have kb : (n : Int) ≤ (h.ng : Int) := by omega
        have hrl : (s.drop bg).length ≤ 20000 := by rw [List.length_drop]; omega
        obtain ⟨r, hr⟩ : ∃ r, s.drop bg = r := ⟨_, rfl⟩
        rw [hr] at hsf hrl HLP2
        clear hLP hbgE hr hbl hG HLP
        go_wp2_with fail
        clear hib hsf hgc
        go_loopw [11] (fun u11 wx => ∃ t : LB, u11 = .string ⟨t.toArray⟩ ∧ t.length ≤ 20000 ∧ Hid (trimP ifs t = trimP ifs r) ∧ ∃ nd, wx = wr.drewN nd) (fun u11 _ => strLen u11)
        case atStart => exact ⟨r, rfl, hrl, hide rfl, 0, rfl⟩
        case round =>
          obtain ⟨t, rfl, htl, HT, nd, rfl⟩ := hrel
          rcases List.eq_nil_or_concat t with h0 | ⟨L, c, h0⟩
          · subst h0
            have HTR : Hid (trimP ifs r = []) := hide (by rw [← HT.out]; rfl)
            clear HT
            have hlen := HO2.out.len
            obtain ⟨csO, hcO⟩ := HO2.out.blk (by omega)
            have hgO := hcO.lt
            have hfr : wr.frozen? ⟨gO, n - 1, none⟩ = false := World.ownsRow.frozenAt HO2.out (n - 1)
            have hc := World.ownsRow.cellAt HO2.out (n - 1) (by omega)
            rw [svs_get _ (n - 1) (by omega)] at hc
            have his := fun W => str_at gO n n (n - 1) ((n : Int) - 1) (by omega) (by omega) W
            go_wp2_with fail
            go_quiet (fail)
            go_wp2_with fail
            go_ret
            refine ⟨some ⟨gO, 0, none⟩, n, rfl, ?_, ?_⟩
            · rw [HBE.out, HLP2.out, HTR.out]
              exact HO2.out.set_ (n - 1) []
            · rw [HBE.out]
              first
                | exact (below_drewN (below_drewN HB.out nd) nq).setCell (p := ⟨gO, n - 1, none⟩) hbw3 _
                | exact (below_drewN HB.out _).setCell (p := ⟨gO, n - 1, none⟩) hbw3 _
                | exact below_drewN (HB.out.setCell (p := ⟨gO, n - 1, none⟩) hbw3 _) _
          · rw [List.concat_eq_append] at h0
            have hLl : t.length = L.length + 1 := by rw [h0]; simp
            have hix : ∀ W, (Instr.index 9 (.string ⟨t.toArray⟩) (.int .i64 ((t.length : Int) - 1))).run Try.prog W = .ok (.int .u8 (c.toNat : Int)) W := fun W => by
              have e : t[L.length]? = some c := by rw [h0]; simp
              have := ix_l t L.length c e W
              rwa [show ((L.length : Nat) : Int) = (t.length : Int) - 1 by omega] at this
            have hsl : ∀ W, (Instr.slice 9 (.string ⟨t.toArray⟩) none (some (.int .i64 ((t.length : Int) - 1))) none).run Try.prog W = .ok (.string ⟨L.toArray⟩) W := fun W => by
              rw [sl_to t L.length ((t.length : Int) - 1) (by omega) (by omega) W, h0]
              simp
            have kne : (t != []) = true := by rw [bne_iff_ne, h0]; simp
            have keq : (t == []) = false := by rw [beq_eq_false_iff_ne, h0]; simp
            have hwt : IntKind.i64.wrap ((t.length : Int) - 1) = (t.length : Int) - 1 := by simp [IntKind.wrap, IntKind.bits, IntKind.signed]; omega
            have hlook : ∀ k, (Instr.lookup 38 (.map (some h.m)) (.int .u8 (c.toNat : Int)) false).run Try.prog (wr.drewN k) = .ok (.int .i64 (kindP ifs c : Int)) (wr.drewN k) := fun k => (HS.out.drewN k).km.look c
            have hl1 := hlook nd
            have hlb : (1 : Int) ≤ (t.length : Int) := by omega
            have HLL := hide hLl
            by_cases hk : kindP ifs c = 1
            · have HT2 : Hid (trimP ifs L = trimP ifs r) := hide (by rw [← HT.out, h0, trim_white ifs L c hk])
              rw [hk] at hlook hl1
              clear h0 hk HT hLl
              go_wp2_with fail
              go_quiet (fail)
              clear hlook hl1
              go_wp2_with fail
              go_roundw
              case rel => exact ⟨L, rfl, by have := HLL.out; omega, HT2, _, rfl⟩
              case measure =>
                have := HLL.out
                show L.length < t.length
                omega
            · have HTR : Hid (trimP ifs r = t) := hide (by rw [← HT.out, h0, trim_stop ifs L c hk])
              have hk1 : ((kindP ifs c : Int) == 1) = false := by rw [beq_eq_false_iff_ne]; omega
              have hlen := HO2.out.len
              obtain ⟨csO, hcO⟩ := HO2.out.blk (by omega)
              have hgO := hcO.lt
              have hfr : wr.frozen? ⟨gO, n - 1, none⟩ = false := World.ownsRow.frozenAt HO2.out (n - 1)
              have hc := World.ownsRow.cellAt HO2.out (n - 1) (by omega)
              rw [svs_get _ (n - 1) (by omega)] at hc
              obtain ⟨oldv, hold⟩ : ∃ x, (lineO E.fields n)[n - 1] = x := ⟨_, rfl⟩
              rw [hold] at hc
              clear hold hlen hcO
              have his := fun W => str_at gO n n (n - 1) ((n : Int) - 1) (by omega) (by omega) W
              clear h0 hk HT hLl
              generalize kindP ifs c = kc at *
              go_wp2_with fail
              go_quiet (fail)
              clear hlook hl1 hsl hix
              go_wp2_with fail
              go_ret
              refine ⟨some ⟨gO, 0, none⟩, n, rfl, ?_, ?_⟩
              · rw [HBE.out, HLP2.out, HTR.out]
                exact HO2.out.set_ (n - 1) t
              · rw [HBE.out]
                first
                  | exact (below_drewN (below_drewN HB.out nd) nq).setCell (p := ⟨gO, n - 1, none⟩) hbw3 _
                  | exact (below_drewN HB.out _).setCell (p := ⟨gO, n - 1, none⟩) hbw3 _
                  | exact below_drewN (HB.out.setCell (p := ⟨gO, n - 1, none⟩) hbw3 _) _
      · have hkg : ¬ (n : Int) ≤ (h.ng : Int) := by omega
        have hkg2 : (h.ng : Int) < (n : Int) := by omega
        have HLP2 : Hid (lineP ifs s n = lineO E.fields n) := hide (by rw [HLP.out, if_neg (by have := HNG.out; omega)])
        clear HLP
        go_wp2_with fail
        go_ret
        refine ⟨some ⟨gO, 0, none⟩, n, rfl, ?_, ?_⟩
        · rw [HBE.out, HLP2.out]
          exact HO2.out
        · rw [HBE.out]; exact HB.out
end Go.Proofs.Ytnongbbhpkmdjaa
