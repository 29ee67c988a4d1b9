/- Rows of records in memory. The three functions that chain.read is given. chain.read with each of its three functions. -/
import Derived.Test.YtbbobffedgcbhaaGreatDoorChA
namespace Go.Proofs.YtbbobffedgcbhaaGreatDoor
open Go.RowKit
set_option linter.unusedVariables false
/-- A record as it lies in memory. -/
structure RV where
  r : Rec
  A : Option Addr
  n : Nat
  c : Nat
def RV.v (x : RV) : Value := Rec.v x.r x.A x.n x.c
def RV.cs (x : RV) : List Value := [.int .i64 x.r.seq, .int .i64 x.r.op, .string ⟨x.r.path.toArray⟩, .string ⟨x.r.path2.toArray⟩, .slice x.A x.n x.c, .bool x.r.allow]
def rcs : List RV → List Value
  | [] => []
  | x :: l => x.cs ++ rcs l
theorem RV.cs_length (x : RV) : x.cs.length = 6 := rfl
theorem rcs_length (l : List RV) : (rcs l).length = l.length * 6 := by
  induction l with
  | nil => rfl
  | cons x l ih => rw [rcs, List.length_append, ih, RV.cs_length, List.length_cons]; omega
theorem rcs_append (a b : List RV) : rcs (a ++ b) = rcs a ++ rcs b := by
  induction a with
  | nil => rfl
  | cons x l ih => simp [rcs, ih]
theorem rcs_one (l : List RV) : ∀ u ∈ rcs l, u.oneCell' = true := by
  induction l with
  | nil => simp [rcs]
  | cons x l ih =>
    intro u hu
    simp only [rcs, List.mem_append] at hu
    rcases hu with hu | hu
    · simp only [RV.cs, List.mem_cons, List.not_mem_nil, or_false] at hu
      rcases hu with rfl | rfl | rfl | rfl | rfl | rfl <;> rfl
    · exact ih u hu
theorem rcs_at : ∀ (l : List RV) (k j : Nat) (h : k < l.length), j < 6 → (rcs l)[k * 6 + j]? = (l[k].cs)[j]?
  | x :: l, 0, j, h, hj => by
    simp only [rcs, Nat.zero_mul, Nat.zero_add]
    rw [List.getElem?_append_left (by rw [RV.cs_length]; omega)]
    rfl
  | x :: l, k + 1, j, h, hj => by
    simp only [rcs]
    rw [List.getElem?_append_right (by rw [RV.cs_length]; omega)]
    have := rcs_at l k j (by simpa using h) hj
    rw [RV.cs_length, show (k + 1) * 6 + j - 6 = k * 6 + j by omega, this]
    rfl
theorem infoRec : (Tryz.prog.info? 28).map (fun i => (i.zero, i.size, i.bytes)) = some (some (.agg #[.int .i64 0, .int .i64 0, .string ⟨#[]⟩, .string ⟨#[]⟩, .slice none 0 0, .bool false]), 6, 80) := by kernel_rfl
theorem sizeRec : (Tryz.prog.info? 28).map (·.size) = some 6 := by kernel_rfl
theorem info_rec : ∃ i, Tryz.prog.info? 28 = some i ∧ i.zero = some (.agg #[.int .i64 0, .int .i64 0, .string ⟨#[]⟩, .string ⟨#[]⟩, .slice none 0 0, .bool false]) ∧ i.size = 6 ∧ i.bytes = 80 := by
  have h := infoRec
  cases e : Tryz.prog.info? 28 with
  | none => rw [e] at h; cases h
  | some i =>
    rw [e] at h
    injection h with h
    injection h with h1 h
    injection h with h2 h3
    exact ⟨i, rfl, h1, h2, h3⟩
def RVok (w : World) (x : RV) : Prop := Rd w x.A x.n x.r.dig ∧ x.n ≤ x.c
theorem RVok.below {w w' : World} {x : RV} (h : RVok w x) (hb : Below w.heap.size w w') : RVok w' x := ⟨rb h.1 hb, h.2⟩
theorem RVok.len {w : World} {x : RV} (h : RVok w x) : x.r.dig.length = x.n := Rd.len h.1
def RowR (w : World) (A : Option Addr) (n : Nat) (l : List RV) : Prop := Reads w w.heap.size 6 A n (rcs l) ∧ ∀ x ∈ l, RVok w x
theorem RowR.len {w : World} {A : Option Addr} {n : Nat} {l : List RV} (h : RowR w A n l) : l.length = n := by have := h.1.1; rw [rcs_length] at this; omega
theorem RowR.below {w w' : World} {A : Option Addr} {n : Nat} {l : List RV} (h : RowR w A n l) (hb : Below w.heap.size w w') : RowR w' A n l := ⟨(Reads.below h.1 hb).more hb.size, fun x hx => (h.2 x hx).below hb⟩
theorem RowR.take {w : World} {A : Option Addr} {n k : Nat} {l : List RV} (h : RowR w A n l) (hk : k ≤ n) : RowR w A k (l.take k) := by
  have hl := h.len
  refine ⟨?_, fun x hx => h.2 x (List.mem_of_mem_take hx)⟩
  have h1 : Reads w w.heap.size 6 A k ((rcs l).take (k * 6)) := by
    refine ⟨by rw [List.length_take, rcs_length]; omega, fun h0 => ?_⟩
    obtain ⟨ad, e, hb, hc⟩ := h.1.2 (by omega)
    refine ⟨ad, e, hb, fun j u hj => ?_⟩
    rw [List.getElem?_take] at hj
    split at hj
    · exact hc j u hj
    · cases hj
  have e : (rcs l).take (k * 6) = rcs (l.take k) := by
    have e2 : rcs l = rcs (l.take k) ++ rcs (l.drop k) := by rw [← rcs_append, List.take_append_drop]
    rw [e2, List.take_left' (by rw [rcs_length, List.length_take]; omega)]
  rwa [e] at h1
theorem run_sizeOf_n {P : Program} {e : TypeId} {n : Nat} (hs : (P.info? e).map (·.size) = some n) (W : World) : (sizeOf e).run P W = .ok n W := by
  obtain ⟨i, hi, h1⟩ := Option.map_eq_some_iff.1 hs
  simp [sizeOf, typeInfo, hi, h1]
theorem rec_at (g1 o m k q : Nat) (i : Int) (hi : i = (q : Int)) (hq : q < m) (W : World) : (Instr.indexAt 31 (.slice (some ⟨g1, o, none⟩) m k) (.int .i64 i)).run Tryz.prog W = .ok (.pointer (some ⟨g1, o + q * 6, none⟩)) W := by
  subst hi
  have hE : Tryz.prog.elem 31 = 28 := by simp [Program.elem, Tryz.underlying31]
  rw [run_indexAt_slice W 31 ⟨g1, o, none⟩ m k .i64 (q : Int) (slice_ht Tryz.underlying31), if_pos ⟨by omega, by omega⟩]
  rw [hE, run_sizeOf_n sizeRec W]
  simp only [Result.andThen, Int.toNat_natCast, at_add]
theorem rec_cells {w : World} {B n : Nat} {A : Option Addr} {l : List RV} (h : Reads w B 6 A n (rcs l)) {k : Nat} {x : RV} (hp : l[k]? = some x) : ∃ g o, A = some ⟨g, o, none⟩ ∧ g < B ∧ w.cell? ⟨g, o + k * 6, none⟩ = some (.int .i64 x.r.seq) ∧ w.cell? ⟨g, o + k * 6 + 1, none⟩ = some (.int .i64 x.r.op) ∧ w.cell? ⟨g, o + k * 6 + 2, none⟩ = some (.string ⟨x.r.path.toArray⟩) ∧ w.cell? ⟨g, o + k * 6 + 3, none⟩ = some (.string ⟨x.r.path2.toArray⟩) ∧ w.cell? ⟨g, o + k * 6 + 4, none⟩ = some (.slice x.A x.n x.c) ∧ w.cell? ⟨g, o + k * 6 + 5, none⟩ = some (.bool x.r.allow) := by
  obtain ⟨hk, he⟩ := List.getElem?_eq_some_iff.1 hp
  have hn : l.length = n := by have := h.1; rw [rcs_length] at this; omega
  obtain ⟨g, o, rfl, hg, hc⟩ := cells_of h (by omega) (by rw [rcs_length]; omega)
  refine ⟨g, o, rfl, hg, ?_, ?_, ?_, ?_, ?_, ?_⟩
  · exact hc (k * 6 + 0) _ (by rw [rcs_at l k 0 hk (by omega), he]; rfl)
  · exact hc (k * 6 + 1) _ (by rw [rcs_at l k 1 hk (by omega), he]; rfl)
  · exact hc (k * 6 + 2) _ (by rw [rcs_at l k 2 hk (by omega), he]; rfl)
  · exact hc (k * 6 + 3) _ (by rw [rcs_at l k 3 hk (by omega), he]; rfl)
  · exact hc (k * 6 + 4) _ (by rw [rcs_at l k 4 hk (by omega), he]; rfl)
  · exact hc (k * 6 + 5) _ (by rw [rcs_at l k 5 hk (by omega), he]; rfl)
theorem one_rec {W : World} {g : Nat} {x : RV} (h : Blk W g 28 x.cs.toArray) : Reads W W.heap.size 6 (some ⟨g, 0, none⟩) 1 (rcs [x]) := by
  refine ⟨rfl, fun _ => ⟨_, rfl, h.lt, ?_⟩⟩
  intro j u hu
  rw [at_add, Nat.zero_add, h.cell j]
  simpa [rcs] using hu
/-- A row of records of its own; no digest in its block. -/
def OutR (B : Nat) (w : World) (A : Option Addr) (n c : Nat) (l : List RV) : Prop :=
  w.ownsRow B 28 6 (.slice A n c) n (rcs l) ∧ (∀ x ∈ l, RVok w x) ∧ ∀ x ∈ l, ∀ ad, x.A = some ad → 0 < x.n → some ad.block ≠ (Value.slice A n c).ownBlock
theorem OutR.row {B : Nat} {w : World} {A : Option Addr} {n c : Nat} {l : List RV} (h : OutR B w A n c l) : RowR w A n l := ⟨Reads.of_own h.1, h.2.1⟩
theorem OutR.below {B : Nat} {w w' : World} {A : Option Addr} {n c : Nat} {l : List RV} (h : OutR B w A n c l) (hb : Below w.heap.size w w') : OutR B w' A n c l := ⟨own_below h.1 hb, fun x hx => (h.2.1 x hx).below hb, h.2.2⟩
theorem OutR.nil (B : Nat) (w : World) : OutR B w none 0 0 [] := ⟨World.ownsRow_nil _ _ _ _, (fun x h => nomatch h), (fun x h => nomatch h)⟩
theorem OutR.more {B C : Nat} {w : World} {A : Option Addr} {n c : Nat} {l : List RV} (h : OutR B w A n c l) (hB : C ≤ B) : OutR C w A n c l := ⟨own_more h.1 hB, h.2⟩
theorem OutR.le {B : Nat} {w : World} {A : Option Addr} {n c : Nat} {l : List RV} (h : OutR B w A n c l) : n ≤ c := by
  rcases h.1.2 with ⟨hv, h0⟩ | ⟨g, cap, cur, hv, hb, hh, hnc, hmx, hsz, htk⟩
  · subst h0; exact Nat.zero_le _
  · injection hv with e1 e2 e3; subst e3; exact hnc
theorem RVok.grown {w w' : World} {x : RV} (h : RVok w x) {row : Option Nat} (hg : w.grownBy w' row) (hne : ∀ ad, x.A = some ad → 0 < x.n → some ad.block ≠ row) : RVok w' x := by
  refine ⟨⟨h.1.1, fun h0 => ?_⟩, h.2⟩
  obtain ⟨ad, e, hb, hc⟩ := h.1.2 h0
  refine ⟨ad, e, Nat.lt_of_lt_of_le hb hg.size, fun j u hj => ?_⟩
  have e2 : w'.cell? (ad.add j) = w.cell? (ad.add j) := World.cell?_of_block (by rw [block_of_add]; exact hg.block _ hb (hne ad e h0))
  rw [e2]; exact hc j u hj
theorem RVok.lt {w : World} {x : RV} (h : RVok w x) {ad : Addr} (e : x.A = some ad) (h0 : 0 < x.n) : ad.block < w.heap.size := by
  obtain ⟨ad', e', hb, _⟩ := h.1.2 h0
  rw [e] at e'
  injection e' with e'
  rw [e']; exact hb
/-- One more record is put behind a row. -/
theorem out_grow {wy w2 : World} {B q co co2 : Nat} {O O2 : Option Addr} {l : List RV} {x : RV}
    (hO : OutR B wy O q co l) (hx : RVok wy x) (hne : ∀ ad, x.A = some ad → 0 < x.n → some ad.block ≠ (Value.slice O q co).ownBlock)
    (hown : w2.ownsRow B 28 6 (.slice O2 (q + 1) co2) (q + 1) (rcs l ++ rcs [x])) (hg : wy.grownBy w2 (Value.slice O q co).ownBlock)
    (hat : (Value.slice O2 (q + 1) co2).ownBlock = (Value.slice O q co).ownBlock ∨ (Value.slice O2 (q + 1) co2).ownBlock = some wy.heap.size) : OutR B w2 O2 (q + 1) co2 (l ++ [x]) := by
  refine ⟨by rw [rcs_append]; exact hown, fun y hy => ?_, fun y hy ad e h0 => ?_⟩
  · rcases List.mem_append.1 hy with h | h
    · exact (hO.2.1 y h).grown hg (hO.2.2 y h)
    · rw [List.mem_singleton.1 h]; exact hx.grown hg hne
  · rcases hat with h | h <;> rw [h]
    · rcases List.mem_append.1 hy with h1 | h1
      · exact hO.2.2 y h1 ad e h0
      · rw [List.mem_singleton.1 h1] at e h0; exact hne ad e h0
    · have hlt : ad.block < wy.heap.size := by
        rcases List.mem_append.1 hy with h1 | h1
        · exact (hO.2.1 y h1).lt e h0
        · rw [List.mem_singleton.1 h1] at e h0; exact hx.lt e h0
      intro h3
      injection h3 with h3
      omega
end Go.Proofs.YtbbobffedgcbhaaGreatDoor
namespace Go.Proofs.YtbbobffedgcbhaaGreatDoor
open Go.RowKit
set_option linter.unusedVariables false
theorem Reads.set1 {w : World} {B : Nat} {A : Option Addr} {n : Nat} {xs : List UInt8} (h : Reads w B 1 A n (bv xs)) {p : Addr} {v0 : Value} (hp : w.cell? p = some v0) (hv : ∀ z, v0 ≠ .int .u8 z) (u : Value) : Reads (w.setCell p u) B 1 A n (bv xs) := by
  refine ⟨h.1, fun h0 => ?_⟩
  obtain ⟨ad, e, hb, hc⟩ := h.2 h0
  refine ⟨ad, e, hb, fun j y hj => ?_⟩
  rw [World.cell?_setCell_other w p (ad.add j) u ?_]
  · exact hc j y hj
  · intro e2
    have h1 := hc j y hj
    rw [← e2, hp] at h1
    have hm := List.mem_of_getElem? hj
    simp only [bv, List.mem_map] at hm
    obtain ⟨b, _, rfl⟩ := hm
    injection h1 with h1
    exact hv _ h1
set_option maxRecDepth 100000 in
set_option maxHeartbeats 4000000 in
theorem scan1_any (x : RV) (p B : Nat) (O : Option Addr) (q co : Nat) (l : List RV) (w : World) (hP : Blk w p 31 #[.slice O q co]) (hpB : p < B) (hBw : B ≤ w.heap.size) (hO : OutR B w O q co l) (hx : RVok w x) (hne : ∀ ad, x.A = some ad → 0 < x.n → some ad.block ≠ (Value.slice O q co).ownBlock) (hq : q ≤ 1000000) :
    Calls Tryz.prog 40 #[x.v, .pointer (some ⟨p, 0, none⟩)] w fun e w' => e = .returned (.bool true) ∧ ∃ O' c', Blk w' p 31 #[.slice O' (q + 1) c'] ∧ OutR B w' O' (q + 1) c' (l ++ [x]) ∧ Below p w w' := by
  obtain ⟨i0, hi, hz0, hz1, hz2⟩ := info_rec
  have hb1 := bl_alloc w (.cells x.cs.toArray 28)
  have hb2 : Below w.heap.size w ((w.alloc (.cells x.cs.toArray 28)).alloc (.cells x.cs.toArray 28)) := hb1.alloc (by simp) _
  have hR : Reads ((w.alloc (.cells x.cs.toArray 28)).alloc (.cells x.cs.toArray 28)) (w.heap.size + 1 + 1) 6 (some ⟨w.heap.size + 1, 0, none⟩) 1 (rcs [x]) := by
    have h := one_rec (x := x) (Blk.new (w.alloc (.cells x.cs.toArray 28)) 28 x.cs.toArray)
    simpa using h
  have hO2 := hO.below hb2
  have hx2 := hx.below hb2
  have hP2 := hP.below hb2 hP.lt
  have hB2 := hb2.mono (Nat.le_of_lt hP.lt)
  have X : Hid (∀ O2 co2 w2, w2.ownsRow B 28 6 (.slice O2 (q + 1) co2) (q + 1) (rcs l ++ rcs [x]) → ((w.alloc (.cells x.cs.toArray 28)).alloc (.cells x.cs.toArray 28)).grownBy w2 (Value.slice O q co).ownBlock →
      ((Value.slice O2 (q + 1) co2).ownBlock = (Value.slice O q co).ownBlock ∨ (Value.slice O2 (q + 1) co2).ownBlock = some (w.heap.size + 1 + 1)) →
      (Blk w2 p 31 #[.slice O q co]) ∧ OutR B (w2.setCell ⟨p, 0, none⟩ (.slice O2 (q + 1) co2)) O2 (q + 1) co2 (l ++ [x]) ∧ Below p w (w2.setCell ⟨p, 0, none⟩ (.slice O2 (q + 1) co2))) := hide (by
    intro O2 co2 w2 h1 h2 h3
    have hgr : ∀ k, (Value.slice O q co).ownBlock = some k → B ≤ k := fun k hk => (hO2.1.lt k hk).1
    have h4 := out_grow hO2 hx2 hne h1 h2 (by simpa using h3)
    have hP3 : Blk w2 p 31 #[.slice O q co] := (h2.block p hP2.lt (fun h => by have := hgr p h.symm; omega)).trans hP2
    refine ⟨hP3, ⟨own_far h4.1 hpB _, fun y hy => ⟨(Reads.set1 (h4.2.1 y hy).1 (hP3.cell 0) (fun z => by simp) (.slice O2 (q + 1) co2)).more (by simp), (h4.2.1 y hy).2⟩, h4.2.2⟩, ?_⟩
    exact (hB2.grown h2 (Nat.le_of_lt hP2.lt) (fun k hk => by have := hgr k hk; omega)).setCell (Nat.le_refl _) _)
  have HO2 := hide hO2.1
  have HR := hide hR
  have p1 := hP.cell 0
  have p2 := hP.frozen 0
  have pl := hP.lt
  simp at p1
  clear hP hO hx hne hb1 hb2 hR hO2 hx2 hP2 hB2
  obtain ⟨⟨sq, op, pa, pb, dg, al⟩, XA, xn, xc⟩ := x
  unfold RV.v Rec.v RV.cs at *
  dsimp only at *
  go_enter Tryz.func40, Tryz.ntmps40
  go_wp2_with (at_builtin; (refine wpList_append_any _ rfl (.tmp 4) (.tmp 6) 31 rfl B 28 i0 _ 6 80 Tryz.underlying31 hi hz0 hz1 hz2 rfl (by omega) (.slice O q co) q (rcs l) rfl HO2.out (w.heap.size + 1 + 1) (some ⟨w.heap.size + 1, 0, none⟩) 1 1 _ rfl HR.out (rcs_one _) ?c1 ?c2 ?c3 ?_))
  case c1 => unfold maxLen; omega
  case c2 => omega
  case c3 => simp; omega
  intro v2 w2 ho2 hg2 hat2
  obtain ⟨O2, co2, rfl⟩ := own_slice ho2
  obtain ⟨hP3, h4, h5⟩ := X.out O2 co2 w2 ho2 hg2 hat2
  have H4 := hide h4
  have H5 := hide h5
  have HP3 := hide hP3
  have p3 := hP3.cell 0
  have p4 := hP3.frozen 0
  have p5 := hP3.lt
  simp at p3
  clear ho2 hg2 hat2 h4 h5 X HO2 HR p1 p2 pl hP3
  go_wp2_with fail
  go_ret
  exact ⟨rfl, O2, co2, HP3.out.set_ 0 _, H4.out, H5.out⟩
end Go.Proofs.YtbbobffedgcbhaaGreatDoor
namespace Go.Proofs.YtbbobffedgcbhaaGreatDoor
open Go.RowKit
set_option linter.unusedVariables false
def scanB (bs : LB) : List Rec × LB × Nat := scanP bs.length zero32 0 bs
/-- So far the records l were found; they end at e, the digest there is h. -/
def AtS (bs : LB) (l : List Rec) (e : Nat) (h : LB) : Prop := e ≤ bs.length ∧ h.length = 32 ∧ scanB bs = (l ++ (scanP (bs.length - e) h l.length (bs.drop e)).1, (scanP (bs.length - e) h l.length (bs.drop e)).2.1, e + (scanP (bs.length - e) h l.length (bs.drop e)).2.2)
theorem at_start (bs : LB) : AtS bs [] 0 zero32 := ⟨Nat.zero_le _, rfl, by unfold scanB; simp⟩
theorem at_step {bs : LB} {l : List Rec} {e : Nat} {h : LB} (H : AtS bs l e h) {r : Rec} {own : LB} {n : Nat} (hn : nextP h l.length (bs.drop e) = some (r, own, n)) : AtS bs (l ++ [r]) (e + n) own := by
  obtain ⟨h1, h2, h3⟩ := H
  obtain ⟨n1, n2, n3, n4, n5⟩ := next_len hn
  rw [List.length_drop] at n2
  refine ⟨by omega, n3, ?_⟩
  rw [h3]
  obtain ⟨f, hf⟩ : ∃ f, bs.length - e = f + 1 := ⟨bs.length - e - 1, by omega⟩
  rw [hf]
  have hs : scanP (f + 1) h l.length (bs.drop e) = (r :: (scanP f own (l.length + 1) ((bs.drop e).drop n)).1, (scanP f own (l.length + 1) ((bs.drop e).drop n)).2.1, n + (scanP f own (l.length + 1) ((bs.drop e).drop n)).2.2) := by
    simp only [scanP, hn]
  rw [hs, List.drop_drop, List.length_append, List.length_singleton]
  rw [scan_fuel f (bs.length - (e + n)) own (l.length + 1) (bs.drop (e + n)) (by rw [List.length_drop]; omega) (by rw [List.length_drop]; omega)]
  simp [Nat.add_assoc]
theorem at_end {bs : LB} {l : List Rec} {e : Nat} {h : LB} (H : AtS bs l e h) (hn : nextP h l.length (bs.drop e) = none) : scanB bs = (l, h, e) := by
  obtain ⟨h1, h2, h3⟩ := H
  rw [h3]
  have hs : scanP (bs.length - e) h l.length (bs.drop e) = ([], h, 0) := by
    cases hf : bs.length - e with
    | zero => rfl
    | succ f => simp only [scanP, hn]
  rw [hs]
  simp
theorem Std.low {w w' : World} (h : Std w) {B : Nat} (hB : 4 < B) (hb : Below B w w') : Std w' := by
  constructor
  · exact (hb.cell (by exact hB)).trans h.et
theorem Tabs.low {w w' : World} (h : Tabs w) {B : Nat} (hB : 5 < B) (hb : Below B w w') : Tabs w' := ⟨h.1.keep fun p hp => hb.cell (by omega), h.2.1.keep fun p hp => hb.cell (by omega), Nat.lt_of_lt_of_le h.2.2 hb.size⟩
theorem next_nocut {h : LB} {k : Nat} {b : LB} (H : cutP b = none) : nextP h k b = none := by unfold nextP; rw [H]
theorem next_nodig {h : LB} {k : Nat} {b body own : LB} (H : cutP b = some (body, own)) (hne : own ≠ digP h body) : nextP h k b = none := by
  unfold nextP; rw [H]; exact if_neg hne
theorem next_nodec {h : LB} {k : Nat} {b body own : LB} (H : cutP b = some (body, own)) (hd : decP body = none) : nextP h k b = none := by
  unfold nextP; rw [H]; dsimp only; rw [hd]; split <;> rfl
theorem next_noseq {h : LB} {k : Nat} {b body own : LB} {r : Rec} (H : cutP b = some (body, own)) (hd : decP body = some r) (hs : r.seq ≠ (k : Int)) : nextP h k b = none := by
  unfold nextP; rw [H]; dsimp only; rw [hd]; dsimp only
  rw [if_neg hs]
  split <;> rfl
theorem next_yes {h : LB} {k : Nat} {b body own : LB} {r : Rec} (H : cutP b = some (body, own)) (he : own = digP h body) (hd : decP body = some r) (hs : r.seq = (k : Int)) : nextP h k b = some (r, own, 2 + body.length + 32) := by
  unfold nextP; rw [H]; dsimp only; rw [hd]; dsimp only
  rw [if_pos he, if_pos hs]
end Go.Proofs.YtbbobffedgcbhaaGreatDoor
