/- Policies read in memory; a line written. -/
import Derived.Test.YthbackkcamgidaaGreatDoorRuRw
namespace Go.Proofs.YthbackkcamgidaaGreatDoor
open Go Go.RowKit
set_option linter.unusedVariables false
theorem rus_at : ∀ (l : List RV) (k j : Nat) (hk : k < l.length), j < 6 → (rus l)[k * 6 + j]? = (l[k]).cs[j]?
  | x :: l, 0, j, _, hj => by
    rw [rus, List.getElem?_append_left (by simp [RV.cs]; omega)]
    simp
  | x :: l, k + 1, j, hk, hj => by
    have ih := rus_at l k j (by simpa using hk) hj
    rw [rus, List.getElem?_append_right (by simp [RV.cs]; omega)]
    rw [show (k + 1) * 6 + j - x.cs.length = k * 6 + j by simp [RV.cs]; omega, ih]
    simp
theorem ecs_at : ∀ (l : List EU) (k j : Nat) (hk : k < l.length), j < 3 → (ecs l)[k * 3 + j]? = (l[k]).cs[j]?
  | x :: l, 0, j, _, hj => by
    rw [ecs, List.getElem?_append_left (by simp [EU.cs]; omega)]
    simp
  | x :: l, k + 1, j, hk, hj => by
    have ih := ecs_at l k j (by simpa using hk) hj
    rw [ecs, List.getElem?_append_right (by simp [EU.cs]; omega)]
    rw [show (k + 1) * 3 + j - x.cs.length = k * 3 + j by simp [EU.cs]; omega, ih]
    simp
theorem sizeRu : (Tryz.prog.info? 40).map (·.size) = some 6 := by kernel_rfl
theorem sizeEn : (Tryz.prog.info? 42).map (·.size) = some 3 := by kernel_rfl
theorem ru_at (g1 o m k q : Nat) (i : Int) (hi : i = (q : Int)) (hq : q < m) (W : World) : (Instr.indexAt 23 (.slice (some ⟨g1, o, none⟩) m k) (.int .i64 i)).run Tryz.prog W = .ok (.pointer (some ⟨g1, o + q * 6, none⟩)) W := by
  subst hi
  have hE : Tryz.prog.elem 23 = 40 := by simp [Program.elem, Tryz.underlying23]
  rw [run_indexAt_slice W 23 ⟨g1, o, none⟩ m k .i64 (q : Int) (slice_ht Tryz.underlying23), if_pos ⟨by omega, by omega⟩]
  rw [hE, run_sizeOf_n sizeRu W]
  simp only [Result.andThen, Int.toNat_natCast, at_add]
theorem en_at (g1 o m k q : Nat) (i : Int) (hi : i = (q : Int)) (hq : q < m) (W : World) : (Instr.indexAt 24 (.slice (some ⟨g1, o, none⟩) m k) (.int .i64 i)).run Tryz.prog W = .ok (.pointer (some ⟨g1, o + q * 3, none⟩)) W := by
  subst hi
  have hE : Tryz.prog.elem 24 = 42 := by simp [Program.elem, Tryz.underlying24]
  rw [run_indexAt_slice W 24 ⟨g1, o, none⟩ m k .i64 (q : Int) (slice_ht Tryz.underlying24), if_pos ⟨by omega, by omega⟩]
  rw [hE, run_sizeOf_n sizeEn W]
  simp only [Result.andThen, Int.toNat_natCast, at_add]
theorem ru_cells {w : World} {B n : Nat} {A : Option Addr} {l : List RV} (h : Reads w B 6 A n (rus l)) {k : Nat} {x : RV} (hp : l[k]? = some x) : ∃ g o, A = some ⟨g, o, none⟩ ∧ g < B ∧ ∀ j u, x.cs[j]? = some u → w.cell? ⟨g, o + k * 6 + j, none⟩ = some u := by
  obtain ⟨hk, he⟩ := List.getElem?_eq_some_iff.1 hp
  have hn : l.length = n := by have := h.1; rw [rus_length] at this; omega
  obtain ⟨g, o, rfl, hg, hc⟩ := cells_of h (by omega) (by rw [rus_length]; omega)
  refine ⟨g, o, rfl, hg, fun j u hj => ?_⟩
  have hjl : j < 6 := by
    rcases Nat.lt_or_ge j 6 with h | h
    · exact h
    · rw [List.getElem?_eq_none (by simp [RV.cs]; omega)] at hj; cases hj
  rw [Nat.add_assoc]
  exact hc (k * 6 + j) _ (by rw [rus_at l k j hk hjl, he]; exact hj)
theorem en_cells {w : World} {B n : Nat} {A : Option Addr} {l : List EU} (h : Reads w B 3 A n (ecs l)) {k : Nat} {x : EU} (hp : l[k]? = some x) : ∃ g o, A = some ⟨g, o, none⟩ ∧ g < B ∧ ∀ j u, x.cs[j]? = some u → w.cell? ⟨g, o + k * 3 + j, none⟩ = some u := by
  obtain ⟨hk, he⟩ := List.getElem?_eq_some_iff.1 hp
  have hn : l.length = n := by have := h.1; rw [ecs_length] at this; omega
  obtain ⟨g, o, rfl, hg, hc⟩ := cells_of h (by omega) (by rw [ecs_length]; omega)
  refine ⟨g, o, rfl, hg, fun j u hj => ?_⟩
  have hjl : j < 3 := by
    rcases Nat.lt_or_ge j 3 with h | h
    · exact h
    · rw [List.getElem?_eq_none (by simp [EU.cs]; omega)] at hj; cases hj
  rw [Nat.add_assoc]
  exact hc (k * 3 + j) _ (by rw [ecs_at l k j hk hjl, he]; exact hj)
/-- A policy that is read. -/
structure PolR (s : RS) (P : PL) (w : World) : Prop where
  rules : Reads w w.heap.size 6 s.RA s.rn (rus s.L)
  ok : ∀ x ∈ s.L, Reads w w.heap.size 1 x.O x.on (ivs x.r.ops) ∧ Reads w w.heap.size 1 x.A x.an (svs x.r.args)
  eq : s.L.map RV.r = P.rules
  env : Reads w w.heap.size 3 s.EA s.en (ecs P.env)
theorem PolR.below {s : RS} {P : PL} {w w' : World} (h : PolR s P w) (hb : Below w.heap.size w w') : PolR s P w' :=
  ⟨(h.rules.below hb).more hb.size, fun x hx => ⟨((h.ok x hx).1.below hb).more hb.size, ((h.ok x hx).2.below hb).more hb.size⟩, h.eq, (h.env.below hb).more hb.size⟩
theorem PolO.r {B : Nat} {s : RS} {P : PL} {w : World} (h : PolO B s P w) : PolR s P w :=
  ⟨Reads.of_own h.rules, fun x hx => ⟨Reads.of_own (h.ok x hx).1, Reads.of_own (h.ok x hx).2⟩, h.eq, Reads.of_own h.env⟩
theorem PolR.rn_ {s : RS} {P : PL} {w : World} (h : PolR s P w) : P.rules.length = s.rn := by have := h.rules.1; rw [rus_length] at this; rw [← h.eq, List.length_map]; omega
theorem PolR.en_ {s : RS} {P : PL} {w : World} (h : PolR s P w) : P.env.length = s.en := by have := h.env.1; rw [ecs_length] at this; omega
/-- Not great. -/
structure Sm (P : PL) : Prop where
  nr : P.rules.length ≤ 80
  ne : P.env.length ≤ 80
  root : P.root.length ≤ 10000
  ru : ∀ r ∈ P.rules, r.ops.length ≤ 20 ∧ r.path.length ≤ 10000 ∧ r.args.length ≤ 30 ∧ ∀ a ∈ r.args, a.length ≤ 600
  en : ∀ e ∈ P.env, e.pat.length ≤ 10000 ∧ e.val.length ≤ 10000
theorem join_app_len (ks : List LB) (m : Nat) (h : ∀ k ∈ ks, k.length ≤ m) : (Lib.join ks [32]).length ≤ ks.length * (m + 1) := join_len 32 ks m h
theorem join_sum (c : UInt8) : ∀ ks : List LB, (Lib.join ks [c]).length ≤ (ks.map fun k => k.length + 1).sum
  | [] => by simp [Lib.join]
  | [x] => by
    have : Lib.join [x] [c] = x := by simp [Lib.join]
    rw [this]; simp
  | x :: y :: r => by
    rw [join_two_c, List.length_append, List.length_cons]
    have := join_sum c (y :: r)
    simp only [List.map_cons, List.sum_cons] at this ⊢
    omega
theorem sum_le (m : Nat) : ∀ ks : List LB, (∀ k ∈ ks, k.length ≤ m) → (ks.map fun k => k.length + 1).sum ≤ ks.length * (m + 1)
  | [], _ => by simp
  | x :: r, h => by
    have := sum_le m r fun k hk => h k (List.mem_cons_of_mem _ hk)
    have := h x List.mem_cons_self
    simp only [List.map_cons, List.sum_cons, List.length_cons, Nat.succ_mul]
    omega
theorem opsWord_len (l : List Int) (h : l.length ≤ 20) : (opsWordU l).length ≤ 160 := by
  unfold opsWordU
  split
  · simp
  · have := join_len 44 (l.map wordO) 7 (fun k hk => by obtain ⟨o, _, rfl⟩ := List.mem_map.1 hk; exact wordO_len o)
    rw [List.length_map] at this
    omega
theorem ruleW_len {r : RU} (h : r.ops.length ≤ 20 ∧ r.path.length ≤ 10000 ∧ r.args.length ≤ 30 ∧ ∀ a ∈ r.args, a.length ≤ 600) : (Lib.join (ruleW r) [32]).length ≤ 30000 := by
  obtain ⟨h1, h2, h3, h4⟩ := h
  have hj := join_sum 32 (ruleW r)
  have ho := opsWord_len r.ops h1
  have hs := sum_le 600 r.args h4
  have hv : (if r.al = true then wAllow else wDeny).length ≤ 5 := by split <;> decide
  have hd : ((if r.mo = true then [wDots] else []).map fun k : LB => k.length + 1).sum ≤ 4 := by split <;> decide
  have ha : ((if r.wi = true then wArgs :: r.args else []).map fun k : LB => k.length + 1).sum ≤ 5 + (r.args.map fun k : LB => k.length + 1).sum := by
    split
    · simp [wArgs]
    · simp
  unfold ruleW at hj
  rw [List.map_cons, List.map_cons, List.map_cons, List.sum_cons, List.sum_cons, List.sum_cons, List.map_append, List.sum_append] at hj
  have : r.args.length * (600 + 1) ≤ 30 * 601 := Nat.mul_le_mul h3 (Nat.le_refl _)
  unfold ruleW
  omega
theorem envW_len {e : EU} (h : e.pat.length ≤ 10000 ∧ e.val.length ≤ 10000) : (Lib.join (envW e) [32]).length ≤ 30000 := by
  have hj := join_sum 32 (envW e)
  have h1 : (saidU e).length ≤ 20001 := by
    unfold saidU
    split
    · omega
    · simp; omega
  have h2 : (if e.k = 1 then wKeep else if e.k = 2 then wDrop else wSet).length ≤ 4 := by
    repeat' split
    all_goals decide
  unfold envW at hj
  simp only [List.map_cons, List.sum_cons, List.map_nil, List.sum_nil] at hj
  have h3 : wEnv.length = 3 := rfl
  unfold envW
  omega
theorem textW_snoc (ls : List (List LB)) (x : List LB) : textW (ls ++ [x]) = textW ls ++ (Lib.join x [32] ++ [10]) := by simp [textW]
theorem textW_len (m : Nat) : ∀ ls : List (List LB), (∀ l ∈ ls, (Lib.join l [32]).length ≤ m) → (textW ls).length ≤ ls.length * (m + 1)
  | [], _ => by simp [textW]
  | x :: r, h => by
    have h1 := textW_len m r fun k hk => h k (List.mem_cons_of_mem _ hk)
    have h2 := h x List.mem_cons_self
    unfold textW at h1 ⊢
    rw [List.flatMap_cons, List.length_append, List.length_append]
    simp only [List.length_cons, List.length_nil, Nat.succ_mul]
    omega
set_option maxRecDepth 100000 in
set_option maxHeartbeats 4000000 in
theorem add_line (B b : Nat) (bs : LB) (ks : List LB) (A : Option Addr) (n c : Nat) (w : World) (h : Lib.IsBuilder 81 5 B b (bv bs) w) (hO : w.ownsRow 0 9 1 (.slice A n c) n (svs ks)) (hj : (Lib.join ks [32]).length ≤ 1000000) (hl : bs.length ≤ 100000000) (hBw : B ≤ w.heap.size) :
    Calls Tryz.prog 50 #[.slice A n c, .pointer (some ⟨b, 0, none⟩)] w fun e w' => e = .returned (.tuple #[]) ∧ Lib.IsBuilder 81 5 B b (bv (bs ++ (Lib.join ks [32] ++ [10]))) w' ∧ Below B w w' := by
  have XJ := hide (join_row 32 A n c ks w (Reads.of_own hO) (own_le hO) (own_addr hO) hj)
  have XS := hide (fun W h hw => writeString_any B b bs (Lib.join ks [32]) W h (by omega) hw)
  have HI := hide h
  clear h hO
  obtain ⟨t, ht⟩ : ∃ t, Lib.join ks [32] = t := ⟨_, rfl⟩
  rw [ht] at XJ XS hj ⊢
  clear ht
  have XB := hide (fun W h hw => writeByte_any B b (bv (bs ++ t)) 10 W h (by rw [bv_length, List.length_append]; omega) hw)
  go_enter Tryz.func50, Tryz.ntmps50
  go_wp2_with fail
  refine XJ.out.mono ?_
  rintro e w1 ⟨rfl, hb1⟩
  have hBw1 : B ≤ w1.heap.size := by have := hb1.size; omega
  have HB1 := hide (hb1.mono hBw)
  have HI1 := hide (ib_below HI.out hb1)
  clear hb1 XJ HI
  go_wp2_with fail
  refine (XS.out w1 HI1.out hBw1).mono ?_
  rintro e w2 ⟨rfl, hI2, hb2⟩
  have hBw2 : B ≤ w2.heap.size := by have := hb2.size; omega
  have HB2 := hide (HB1.out.trans hb2)
  have HI2 : Hid (Lib.IsBuilder 81 5 B b (bv (bs ++ t)) w2) := hide (.inr hI2)
  clear hb2 hI2 XS HB1 HI1
  go_wp2_with fail
  refine (XB.out w2 HI2.out hBw2).mono ?_
  rintro e w3 ⟨rfl, hI3, hb3⟩
  have HB3 := hide (HB2.out.trans hb3)
  have HI3 : Hid (Lib.IsBuilder 81 5 B b (bv (bs ++ (t ++ [10]))) w3) := hide (by
    rw [← List.append_assoc, bv_append]; exact .inr hI3)
  clear hb3 hI3
  go_wp2_with fail
  go_end0
  exact ⟨rfl, HI3.out, HB3.out⟩
end Go.Proofs.YthbackkcamgidaaGreatDoor
