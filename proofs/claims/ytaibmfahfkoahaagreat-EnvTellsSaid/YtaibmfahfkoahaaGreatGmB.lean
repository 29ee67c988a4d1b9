/- Contracts of glob's elements: class, same, next. -/
import Derived.Test.YtaibmfahfkoahaaGreatGmA
import Derived.Deep.RegionHeld3
import Derived.Deep.DeepCutAuto
import Derived.Shelf.Strings.IndexAnyAll
import Derived.Laws.EntriesVeiled
namespace Go.Proofs.YtaibmfahfkoahaaGreat
open Go.RowKit
set_option linter.unusedVariables false
inductive El where
  | star : El
  | any : El
  | one : UInt8 → El
  | cls : (UInt8 → Bool) → Bool → El
def El.many : El → Bool
  | .star => true
  | _ => false
def El.fits : El → UInt8 → Bool
  | .star, _ => false
  | .any, _ => true
  | .one c, x => x == c
  | .cls s n, x => s x != n
def classB (p : Bs) : Nat := if Lib.hasPrefix (p.drop 1) [33] = true then 2 else 1
def classN (p : Bs) : Bool := Lib.hasPrefix (p.drop 1) [33]
/-- The class at the beginning of a pattern: its set, whether it is turned round, its size. -/
def classP (p : Bs) : Option ((UInt8 → Bool) × Bool × Nat) :=
  if p.length ≤ classB p then none else
  if Lib.indexByte (p.drop (classB p + 1)) 93 < 0 then none else
  some (itemsF ((p.drop (classB p)).take (1 + (Lib.indexByte (p.drop (classB p + 1)) 93).toNat)), classN p, classB p + 1 + (Lib.indexByte (p.drop (classB p + 1)) 93).toNat + 1)
def nextP : Bs → El × Nat
  | [] => (.star, 1)
  | c :: r => if c = 42 then (.star, 1) else if c = 63 then (.any, 1) else if c = 91 then (match classP (c :: r) with
      | some (s, n, k) => (.cls s n, k)
      | none => (.one c, 1)) else if c = 92 then (match r with
      | [] => (.one c, 1)
      | d :: _ => (.one d, 2)) else (.one c, 1)
theorem ext_two (l : Bs) (i j : Nat) : (⟨l.toArray⟩ : ByteArray).extract i j = ⟨((l.drop i).take (j - i)).toArray⟩ := by
  apply ByteArray.ext
  apply Array.toList_inj.1
  simp
theorem ext_from (l : Bs) (i : Nat) : (⟨l.toArray⟩ : ByteArray).extract i l.length = ⟨(l.drop i).toArray⟩ := by
  rw [ext_two, List.take_of_length_le (by simp)]
theorem store_new (f : UInt8 → Bool) (W : World) : (storeCells ⟨W.heap.size, 0, none⟩ (setA f).toList 0).run Tryz.prog (W.alloc (.cells (setA fun _ => false) 121)) = .ok () (W.alloc (.cells (setA f) 121)) :=
  run_storeCells_new (P := Tryz.prog) W 121 _ (setA f) (by rw [setA_size]; exact zero51.2) (by rw [setA_size, setA_size]) (by
    rw [Array.all_eq_true_iff_forall_mem]
    intro v hv
    simp only [setA, List.mem_toArray, List.mem_map] at hv
    obtain ⟨i, _, rfl⟩ := hv
    rfl)
/-- What a class's function has captured. -/
def ClsAt (w : World) (g h : Nat) (s : UInt8 → Bool) (n : Bool) : Prop := Blk w g 121 (setA s) ∧ Blk w h 4 #[.bool n]
def clsV (g h : Nat) : Value := .func (.func 106) #[] #[.pointer (some ⟨g, 0, none⟩), .pointer (some ⟨h, 0, none⟩)]
def RetCls (w : World) (r : Option ((UInt8 → Bool) × Bool × Nat)) (e : Ending) (w' : World) : Prop := match r with
  | none => e = .returned (.tuple #[.nilFunc, .int .i64 0]) ∧ Below w.heap.size w w'
  | some (s, n, k) => ∃ g h, e = .returned (.tuple #[.func (.func 106) #[] #[.pointer (some ⟨g, 0, none⟩), .pointer (some ⟨h, 0, none⟩)], .int .i64 k]) ∧ ClsAt w' g h s n ∧ Below w.heap.size w w'
theorem pre_l (l p : Bs) (w : World) : Calls Tryz.prog 104 #[.string ⟨l.toArray⟩, .string ⟨p.toArray⟩] w fun e w' => e = .returned (.bool (Lib.hasPrefix l p)) ∧ w = w' := by
  refine (Any.strings_HasPrefix Tryz.lays99 ⟨l.toArray⟩ ⟨p.toArray⟩ w).mono ?_
  rintro e w' ⟨rfl, rfl⟩
  exact ⟨rfl, rfl⟩
theorem ixb_l (l : Bs) (c : UInt8) (w : World) : Calls Tryz.prog 51 #[.string ⟨l.toArray⟩, .int .u8 (c.toNat : Int)] w fun e w' => e = .returned (.int .i64 (Lib.indexByte l c)) ∧ w = w' := by
  refine (Any.strings_IndexByte Tryz.lays137 ⟨l.toArray⟩ (c.toNat : Int) w).mono ?_
  rintro e w' ⟨rfl, rfl⟩
  refine ⟨?_, rfl⟩
  simp
theorem index_lt (l : Bs) (c : UInt8) : Lib.indexByte l c < l.length := by
  induction l with
  | nil => simp [Lib.indexByte]
  | cons x t ih =>
    unfold Lib.indexByte
    split
    · simp
    · split
      · simp; omega
      · simp; omega
set_option maxRecDepth 100000 in
set_option maxHeartbeats 4000000 in
theorem class_any (p : Bs) (h1 : 1 ≤ p.length) (hp : p.length ≤ 1000000) (w : World) : Calls Tryz.prog 100 #[.string ⟨p.toArray⟩] w (RetCls w (classP p)) := by
  have hE : classP p = if p.length ≤ classB p then none else
    if Lib.indexByte (p.drop (classB p + 1)) 93 < 0 then none else
    some (itemsF ((p.drop (classB p)).take (1 + (Lib.indexByte (p.drop (classB p + 1)) 93).toNat)), classN p, classB p + 1 + (Lib.indexByte (p.drop (classB p + 1)) 93).toNat + 1) := rfl
  have hpre := hide (fun W => pre_l (p.drop 1) [33] W)
  have hs1 : (1 : Int) ≤ (p.length : Int) := by omega
  obtain ⟨b, hb, hbr, hbb⟩ : ∃ b, classB p = b ∧ Lib.hasPrefix (p.drop 1) [33] = classN p ∧ b = (if classN p = true then 2 else 1) := ⟨_, rfl, rfl, rfl⟩
  rw [hbr] at hpre
  rw [hb] at hE
  have HE := hide hE
  clear hE hb hbr
  generalize classN p = nt at *
  generalize classP p = cp at *
  by_cases hle : p.length ≤ b
  · have HE2 : Hid (cp = none) := hide (by rw [HE.out, if_pos hle])
    have hge : (p.length : Int) ≤ (b : Int) := by omega
    clear HE
    rw [HE2.out]
    cases nt with
    | false =>
      obtain rfl : b = 1 := by simpa using hbb
      clear hbb
      go_enter Tryz.func100, Tryz.ntmps100
      go_wp2_with fail
      rw [ext_from]
      refine (hpre.out _).mono ?_
      rintro e w1 ⟨rfl, rfl⟩
      go_wp2_with fail
      go_ret2
      exact ⟨rfl, (Below.refl _ _).alloc (Nat.le_refl _) _⟩
    | true =>
      obtain rfl : b = 2 := by simpa using hbb
      clear hbb
      go_enter Tryz.func100, Tryz.ntmps100
      go_wp2_with fail
      rw [ext_from]
      refine (hpre.out _).mono ?_
      rintro e w1 ⟨rfl, rfl⟩
      go_wp2_with fail
      go_ret2
      exact ⟨rfl, (Below.refl _ _).alloc (Nat.le_refl _) _⟩
  · have hge : ¬ (p.length : Int) ≤ (b : Int) := by omega
    have hz := hide (fun W => ixb_l (p.drop (b + 1)) 93 W)
    have hzl := index_lt (p.drop (b + 1)) 93
    have hzg := Lib.indexByte_ge (p.drop (b + 1)) 93
    rw [List.length_drop] at hzl
    have HE1 : Hid (cp = if Lib.indexByte (p.drop (b + 1)) 93 < 0 then none else some (itemsF ((p.drop b).take (1 + (Lib.indexByte (p.drop (b + 1)) 93).toNat)), nt, b + 1 + (Lib.indexByte (p.drop (b + 1)) 93).toNat + 1)) := hide (by rw [HE.out, if_neg hle])
    clear HE
    generalize Lib.indexByte (p.drop (b + 1)) 93 = z at *
    obtain ⟨q, hq⟩ : ∃ q, p.drop (b + 1) = q := ⟨_, rfl⟩
    rw [hq] at hz
    have HQ := hide hq
    clear hq
    have h93 : ((UInt8.toNat 93 : Nat) : Int) = 93 := rfl
    rw [h93] at hz
    clear h93
    by_cases hz0 : z < 0
    · have HE2 : Hid (cp = none) := hide (by rw [HE1.out, if_pos hz0])
      clear HE1
      rw [HE2.out]
      cases nt with
      | false =>
        obtain rfl : b = 1 := by simpa using hbb
        clear hbb
        go_enter Tryz.func100, Tryz.ntmps100
        go_wp2_with fail
        rw [ext_from]
        refine (hpre.out _).mono ?_
        rintro e w1 ⟨rfl, rfl⟩
        go_wp2_with fail
        rw [ext_from, HQ.out]
        refine (hz.out _).mono ?_
        rintro e w2 ⟨rfl, rfl⟩
        go_wp2_with fail
        go_ret2
        exact ⟨rfl, (Below.refl _ _).alloc (Nat.le_refl _) _⟩
      | true =>
        obtain rfl : b = 2 := by simpa using hbb
        clear hbb
        go_enter Tryz.func100, Tryz.ntmps100
        go_wp2_with fail
        rw [ext_from]
        refine (hpre.out _).mono ?_
        rintro e w1 ⟨rfl, rfl⟩
        go_wp2_with fail
        rw [ext_from, HQ.out]
        refine (hz.out _).mono ?_
        rintro e w2 ⟨rfl, rfl⟩
        go_wp2_with fail
        go_ret2
        exact ⟨rfl, (Below.refl _ _).alloc (Nat.le_refl _) _⟩
    · obtain ⟨k, rfl⟩ : ∃ k : Nat, z = k := ⟨z.toNat, by omega⟩
      have HE2 : Hid (cp = some (itemsF ((p.drop b).take (1 + k)), nt, b + 1 + k + 1)) := hide (by rw [HE1.out, if_neg hz0]; rfl)
      clear HE1
      rw [HE2.out]
      have hlen3 : ((p.drop b).take (1 + k)).length ≤ 1000000 := by simp; omega
      obtain ⟨it, hit⟩ : ∃ it, (p.drop b).take (1 + k) = it := ⟨_, rfl⟩
      rw [hit] at hlen3 HE2 ⊢
      have HIT := hide hit
      clear hit
      have HI := hide (fun W => items_any it hlen3 W)
      have hz51 := zero51.1
      have hst := store_new (itemsF it)
      cases nt with
      | false =>
        obtain rfl : b = 1 := by simpa using hbb
        clear hbb
        go_enter Tryz.func100, Tryz.ntmps100
        go_wp2_with fail
        rw [ext_from]
        refine (hpre.out _).mono ?_
        rintro e w1 ⟨rfl, rfl⟩
        go_wp2_with fail
        rw [ext_from, HQ.out]
        refine (hz.out _).mono ?_
        rintro e w2 ⟨rfl, rfl⟩
        go_wp2_with fail
        rw [ext_two, show 2 + k - 1 = 1 + k by omega, HIT.out]
        obtain ⟨h, hh⟩ : ∃ h, w.heap.size = h := ⟨_, rfl⟩
        obtain ⟨V, hV⟩ : ∃ V, w.alloc (.cells #[.bool false] 4) = V := ⟨_, rfl⟩
        have hBV : Below w.heap.size w V := by rw [← hV]; exact (Below.refl _ _).alloc (Nat.le_refl _) _
        have hN : Blk V h 4 #[.bool false] := by rw [← hV, ← hh]; exact Blk.new w 4 _
        have hhV : h < V.heap.size := by rw [← hV, ← hh]; simp
        rw [hV, hh]
        have HH := hide hh
        have HBV := hide hBV
        have HN := hide hN
        clear hV hBV hN hh
        refine (HI.out _).mono ?_
        rintro e w3 ⟨rfl, hb3⟩
        have HB3 := hide hb3
        have HN3 := hide (HN.out.below hb3 hhV)
        clear hb3
        have hst3 := hst w3
        clear hst
        go_wp2_with fail
        go_ret2
        refine ⟨w3.heap.size, h, rfl, ⟨Blk.new w3 121 _, HN3.out.alloc _⟩, ?_⟩
        have hB := below_more HBV.out (Nat.le_refl _) HB3.out
        exact hB.alloc hB.size _
      | true =>
        obtain rfl : b = 2 := by simpa using hbb
        clear hbb
        go_enter Tryz.func100, Tryz.ntmps100
        go_wp2_with fail
        rw [ext_from]
        refine (hpre.out _).mono ?_
        rintro e w1 ⟨rfl, rfl⟩
        go_wp2_with fail
        rw [ext_from, HQ.out]
        refine (hz.out _).mono ?_
        rintro e w2 ⟨rfl, rfl⟩
        go_wp2_with fail
        rw [ext_two, show 3 + k - 2 = 1 + k by omega, HIT.out]
        obtain ⟨h, hh⟩ : ∃ h, w.heap.size = h := ⟨_, rfl⟩
        obtain ⟨V, hV⟩ : ∃ V, w.alloc (.cells #[.bool true] 4) = V := ⟨_, rfl⟩
        have hBV : Below w.heap.size w V := by rw [← hV]; exact (Below.refl _ _).alloc (Nat.le_refl _) _
        have hN : Blk V h 4 #[.bool true] := by rw [← hV, ← hh]; exact Blk.new w 4 _
        have hhV : h < V.heap.size := by rw [← hV, ← hh]; simp
        rw [hV, hh]
        have HH := hide hh
        have HBV := hide hBV
        have HN := hide hN
        clear hV hBV hN hh
        refine (HI.out _).mono ?_
        rintro e w3 ⟨rfl, hb3⟩
        have HB3 := hide hb3
        have HN3 := hide (HN.out.below hb3 hhV)
        clear hb3
        have hst3 := hst w3
        clear hst
        go_wp2_with fail
        go_ret2
        refine ⟨w3.heap.size, h, rfl, ⟨Blk.new w3 121 _, HN3.out.alloc _⟩, ?_⟩
        have hB := below_more HBV.out (Nat.le_refl _) HB3.out
        exact hB.alloc hB.size _
theorem ClsAt.below {w w' : World} {g h : Nat} {s : UInt8 → Bool} {n : Bool} (H : ClsAt w g h s n) (hb : Below w.heap.size w w') : ClsAt w' g h s n := ⟨H.1.below hb H.1.lt, H.2.below hb H.2.lt⟩
/-- An element's two cells. -/
def EV (w : World) : El → Value → Value → Prop
  | .star, a, b => a = .bool true ∧ b = .nilFunc
  | .any, a, b => a = .bool false ∧ b = .func (.func 99) #[] #[]
  | .one c, a, b => a = .bool false ∧ ∃ g, b = .func (.func 107) #[] #[.pointer (some ⟨g, 0, none⟩)] ∧ Blk w g 5 #[.int .u8 (c.toNat : Int)]
  | .cls s n, a, b => a = .bool false ∧ ∃ g h, b = .func (.func 106) #[] #[.pointer (some ⟨g, 0, none⟩), .pointer (some ⟨h, 0, none⟩)] ∧ ClsAt w g h s n
theorem EV.below {w w' : World} {e : El} {a b : Value} (H : EV w e a b) (hb : Below w.heap.size w w') : EV w' e a b := by
  cases e with
  | star => exact H
  | any => exact H
  | one c =>
    obtain ⟨h1, g, h2, h3⟩ := H
    exact ⟨h1, g, h2, h3.below hb h3.lt⟩
  | cls s n =>
    obtain ⟨h1, g, h, h2, h3⟩ := H
    exact ⟨h1, g, h, h2, h3.below hb⟩
theorem same_any (c : UInt8) (w : World) : Calls Tryz.prog 101 #[.int .u8 (c.toNat : Int)] w fun e w' => ∃ g, e = .returned (.func (.func 107) #[] #[.pointer (some ⟨g, 0, none⟩)]) ∧ Blk w' g 5 #[.int .u8 (c.toNat : Int)] ∧ Below w.heap.size w w' := by
  go_enter Tryz.func101, Tryz.ntmps101
  go_wp2_with fail
  go_ret
  exact ⟨_, rfl, Blk.new w 5 _, (Below.refl _ _).alloc (Nat.le_refl _) _⟩
def RetNext (w : World) (r : El × Nat) (e : Ending) (w' : World) : Prop := ∃ a b, e = .returned (.tuple #[.agg #[a, b], .int .i64 r.2]) ∧ EV w' r.1 a b ∧ Below w.heap.size w w'
set_option maxRecDepth 100000 in
set_option maxHeartbeats 4000000 in
theorem next_any (c : UInt8) (r : Bs) (hp : (c :: r).length ≤ 1000000) (w : World) : Calls Tryz.prog 90 #[.string ⟨(c :: r).toArray⟩] w (RetNext w (nextP (c :: r))) := by
  have hE : nextP (c :: r) = if c = 42 then (.star, 1) else if c = 63 then (.any, 1) else if c = 91 then (match classP (c :: r) with
      | some (s, n, k) => (.cls s n, k)
      | none => (.one c, 1)) else if c = 92 then (match r with
      | [] => (.one c, 1)
      | d :: _ => (.one d, 2)) else (.one c, 1) := rfl
  obtain ⟨l, hl⟩ : ∃ l, c :: r = l := ⟨_, rfl⟩
  have hlen : l.length = r.length + 1 := by rw [← hl]; simp
  have hix : ∀ W, (Instr.index 9 (.string ⟨l.toArray⟩) (.int .i64 0)).run Tryz.prog W = .ok (.int .u8 (c.toNat : Int)) W := fun W => ix_l l 0 c (by rw [← hl]; rfl) W
  have HC := hide (class_any l (by omega) (by rw [← hl]; exact hp))
  have hd1 : ∀ d t, r = d :: t → ∀ W, (Instr.index 9 (.string ⟨l.toArray⟩) (.int .i64 1)).run Tryz.prog W = .ok (.int .u8 (d.toNat : Int)) W := fun d t e W => ix_l l 1 d (by rw [← hl, e]; rfl) W
  have HD1 := hide hd1
  rw [hl] at hE hp ⊢
  have hpos : (0 : Int) < (l.length : Int) := by omega
  generalize nextP l = nx at *
  have HE := hide hE
  have hbox := Blk.new w 106 #[.bool false, .nilFunc]
  have HL : Hid (l.length = r.length + 1) := hide hlen
  have t42 := u8_eq c 42
  have t63 := u8_eq c 63
  have t91 := u8_eq c 91
  have t92 := u8_eq c 92
  change ((c.toNat : Int) == 42) = _ at t42
  change ((c.toNat : Int) == 63) = _ at t63
  change ((c.toNat : Int) == 91) = _ at t91
  change ((c.toNat : Int) == 92) = _ at t92
  clear hE hl hlen hd1
  by_cases h42 : c = 42
  · have HR : Hid (nx = (.star, 1)) := hide (by rw [HE.out, if_pos h42])
    rw [beq_iff_eq.2 h42] at t42
    clear t63 t91 t92
    go_enter Tryz.func90, Tryz.ntmps90
    go_wp2_with fail
    change bodyPost Tryz.prog Tryz.f90 (RetNext w nx) Exit.ret _ _
    refine bodyPost_ret (v := .tuple #[.agg #[.bool true, .nilFunc], .int .i64 1]) (by simp only [results, Tryz.results90]; go_simp) rfl ?_
    exact ⟨_, _, by rw [HR.out] <;> rfl, by rw [HR.out]; exact ⟨rfl, rfl⟩, ((Below.refl _ _).alloc (Nat.le_refl _) _)⟩
  rw [beq_eq_false_iff_ne.2 h42] at t42
  by_cases h63 : c = 63
  · have HR : Hid (nx = (.any, 1)) := hide (by rw [HE.out, if_neg h42, if_pos h63])
    rw [beq_iff_eq.2 h63] at t63
    clear t91 t92
    go_enter Tryz.func90, Tryz.ntmps90
    go_wp2_with fail
    change bodyPost Tryz.prog Tryz.f90 (RetNext w nx) Exit.ret _ _
    refine bodyPost_ret (v := .tuple #[.agg #[.bool false, .func (.func 99) #[] #[]], .int .i64 1]) (by simp only [results, Tryz.results90]; go_simp) rfl ?_
    exact ⟨_, _, by rw [HR.out] <;> rfl, by rw [HR.out]; exact ⟨rfl, rfl⟩, ((Below.refl _ _).alloc (Nat.le_refl _) _)⟩
  rw [beq_eq_false_iff_ne.2 h63] at t63
  by_cases h91 : c = 91
  · have HE2 : Hid (nx = match classP l with
      | some (s, n, k) => (.cls s n, k)
      | none => (.one c, 1)) := hide (by rw [HE.out, if_neg h42, if_neg h63, if_pos h91])
    have HCS : Hid (∀ s n k, classP l = some (s, n, k) → 0 < k) := hide (fun s n k h => by
      unfold classP at h
      split at h
      · cases h
      · split at h
        · cases h
        · injection h with h; injection h with _ h; injection h with _ h; omega)
    rw [beq_iff_eq.2 h91] at t91
    have n92 : (c == 92) = false := beq_eq_false_iff_ne.2 (by rw [h91]; decide)
    rw [n92] at t92
    clear HE n92 h42 h63 h91
    generalize classP l = cp at *
    cases cp with
    | none =>
      have HR : Hid (nx = (.one c, 1)) := hide HE2.out
      have HC2 : Hid (∀ W, Calls Tryz.prog 100 #[.string ⟨l.toArray⟩] W fun e w' => e = .returned (.tuple #[.nilFunc, .int .i64 0]) ∧ Below W.heap.size W w') := hide HC.out
      clear HC HE2 HCS
      go_enter Tryz.func90, Tryz.ntmps90
      go_wp2_with fail
      refine (HC2.out _).mono ?_
      rintro e w0 ⟨rfl, hb00⟩
      have hbox2 := Blk.below hbox hb00 (by simp)
      have HB00 := hide (((Below.refl w.heap.size w).alloc (Nat.le_refl _) (.cells #[.bool false, .nilFunc] 106)).trans (hb00.mono (by simp)))
      have hw0 : w.heap.size < w0.heap.size := hbox2.lt
      clear hb00 hbox
      go_wp2_with fail
      refine (same_any c _).mono ?_
      rintro e w1 ⟨g, rfl, hg, hb⟩
      have HG := hide hg
      have hb0 := Blk.below hbox2 hb hw0
      have HB1 := hide (below_more HB00.out (Nat.le_refl _) hb)
      have hc0 := hb0.cell 0
      have hc1 := hb0.cell 1
      have hf0 := hb0.frozen 0
      have hf1 := hb0.frozen 1
      have HN : Hid (g ≠ w.heap.size) := hide (fun e => by subst e; have := hg; unfold Blk at this hb0; rw [hb0] at this; simp at this)
      clear hg hb hb0 hbox2
      go_wp2_with fail
      change bodyPost Tryz.prog Tryz.f90 (RetNext w nx) Exit.ret _ _
      refine bodyPost_ret (v := .tuple #[.agg #[.bool false, .func (.func 107) #[] #[.pointer (some ⟨g, 0, none⟩)]], .int .i64 1]) (by simp only [results, Tryz.results90]; go_simp) rfl ?_
      exact ⟨_, _, by rw [HR.out] <;> rfl, by rw [HR.out]; exact ⟨rfl, g, rfl, (HG.out.far HN.out _).far HN.out _⟩, (HB1.out.setCell (p := ⟨w.heap.size, 0, none⟩) (Nat.le_refl _) _).setCell (p := ⟨w.heap.size, 1, none⟩) (Nat.le_refl _) _⟩
    | some q =>
      obtain ⟨s, n, k⟩ := q
      have HR : Hid (nx = (.cls s n, k)) := hide HE2.out
      have hk : 0 < k := HCS.out s n k rfl
      have hkb : ((0 : Int) < (k : Int)) := by omega
      have HC2 : Hid (∀ W, Calls Tryz.prog 100 #[.string ⟨l.toArray⟩] W fun e w' => ∃ g h, e = .returned (.tuple #[.func (.func 106) #[] #[.pointer (some ⟨g, 0, none⟩), .pointer (some ⟨h, 0, none⟩)], .int .i64 k]) ∧ ClsAt w' g h s n ∧ Below W.heap.size W w') := hide HC.out
      clear HC HE2 HCS
      go_enter Tryz.func90, Tryz.ntmps90
      go_wp2_with fail
      refine (HC2.out _).mono ?_
      rintro e w0 ⟨g, h, rfl, hcl, hb00⟩
      have hb0 := Blk.below hbox hb00 (by simp)
      have HB00 := hide (((Below.refl w.heap.size w).alloc (Nat.le_refl _) (.cells #[.bool false, .nilFunc] 106)).trans (hb00.mono (by simp)))
      have HCL := hide hcl
      have hc0 := hb0.cell 0
      have hc1 := hb0.cell 1
      have hf0 := hb0.frozen 0
      have hf1 := hb0.frozen 1
      have HN1 : Hid (g ≠ w.heap.size) := hide (fun e => by have := hcl.1; subst e; unfold Blk at this hb0; rw [hb0] at this; simp at this)
      have HN2 : Hid (h ≠ w.heap.size) := hide (fun e => by have := hcl.2; subst e; unfold Blk at this hb0; rw [hb0] at this; simp at this)
      clear hcl hb00 hb0 hbox
      go_wp2_with fail
      change bodyPost Tryz.prog Tryz.f90 (RetNext w nx) Exit.ret _ _
      refine bodyPost_ret (v := .tuple #[.agg #[.bool false, .func (.func 106) #[] #[.pointer (some ⟨g, 0, none⟩), .pointer (some ⟨h, 0, none⟩)]], .int .i64 k]) (by simp only [results, Tryz.results90]; go_simp) rfl ?_
      exact ⟨_, _, by rw [HR.out] <;> rfl, by rw [HR.out]; exact ⟨rfl, g, h, rfl, (HCL.out.1.far HN1.out _).far HN1.out _, (HCL.out.2.far HN2.out _).far HN2.out _⟩, (HB00.out.setCell (p := ⟨w.heap.size, 0, none⟩) (Nat.le_refl _) _).setCell (p := ⟨w.heap.size, 1, none⟩) (Nat.le_refl _) _⟩
  rw [beq_eq_false_iff_ne.2 h91] at t91
  by_cases h92 : c = 92
  · rw [beq_iff_eq.2 h92] at t92
    cases r with
    | nil =>
      have HR : Hid (nx = (.one c, 1)) := hide (by rw [HE.out, if_neg h42, if_neg h63, if_neg h91, if_pos h92])
      have hl1 : ¬ (1 : Int) < (l.length : Int) := by have := HL.out; simp at this; omega
      clear HE h42 h63 h91 h92 HC HD1
      go_enter Tryz.func90, Tryz.ntmps90
      go_wp2_with fail
      refine (same_any c _).mono ?_
      rintro e w1 ⟨g, rfl, hg, hb⟩
      have HG := hide hg
      have hb0 := Blk.below hbox hb (by simp)
      have HB1 := hide (((Below.refl w.heap.size w).alloc (Nat.le_refl _) (.cells #[.bool false, .nilFunc] 106)).trans (hb.mono (by simp)))
      have hc0 := hb0.cell 0
      have hc1 := hb0.cell 1
      have hf0 := hb0.frozen 0
      have hf1 := hb0.frozen 1
      have HN : Hid (g ≠ w.heap.size) := hide (fun e => by subst e; have := hg; unfold Blk at this hb0; rw [hb0] at this; simp at this)
      clear hg hb hb0
      go_wp2_with fail
      change bodyPost Tryz.prog Tryz.f90 (RetNext w nx) Exit.ret _ _
      refine bodyPost_ret (v := .tuple #[.agg #[.bool false, .func (.func 107) #[] #[.pointer (some ⟨g, 0, none⟩)]], .int .i64 1]) (by simp only [results, Tryz.results90]; go_simp) rfl ?_
      exact ⟨_, _, by rw [HR.out] <;> rfl, by rw [HR.out]; exact ⟨rfl, g, rfl, (HG.out.far HN.out _).far HN.out _⟩, (HB1.out.setCell (p := ⟨w.heap.size, 0, none⟩) (Nat.le_refl _) _).setCell (p := ⟨w.heap.size, 1, none⟩) (Nat.le_refl _) _⟩
    | cons d t =>
      have HR : Hid (nx = (.one d, 2)) := hide (by rw [HE.out, if_neg h42, if_neg h63, if_neg h91, if_pos h92])
      have hl1 : (1 : Int) < (l.length : Int) := by have := HL.out; simp at this; omega
      have hix1 := HD1.out d t rfl
      clear HE h42 h63 h91 h92 HC HD1
      go_enter Tryz.func90, Tryz.ntmps90
      go_wp2_with fail
      refine (same_any d _).mono ?_
      rintro e w1 ⟨g, rfl, hg, hb⟩
      have HG := hide hg
      have hb0 := Blk.below hbox hb (by simp)
      have HB1 := hide (((Below.refl w.heap.size w).alloc (Nat.le_refl _) (.cells #[.bool false, .nilFunc] 106)).trans (hb.mono (by simp)))
      have hc0 := hb0.cell 0
      have hc1 := hb0.cell 1
      have hf0 := hb0.frozen 0
      have hf1 := hb0.frozen 1
      have HN : Hid (g ≠ w.heap.size) := hide (fun e => by subst e; have := hg; unfold Blk at this hb0; rw [hb0] at this; simp at this)
      clear hg hb hb0
      go_wp2_with fail
      change bodyPost Tryz.prog Tryz.f90 (RetNext w nx) Exit.ret _ _
      refine bodyPost_ret (v := .tuple #[.agg #[.bool false, .func (.func 107) #[] #[.pointer (some ⟨g, 0, none⟩)]], .int .i64 2]) (by simp only [results, Tryz.results90]; go_simp) rfl ?_
      exact ⟨_, _, by rw [HR.out] <;> rfl, by rw [HR.out]; exact ⟨rfl, g, rfl, (HG.out.far HN.out _).far HN.out _⟩, (HB1.out.setCell (p := ⟨w.heap.size, 0, none⟩) (Nat.le_refl _) _).setCell (p := ⟨w.heap.size, 1, none⟩) (Nat.le_refl _) _⟩
  rw [beq_eq_false_iff_ne.2 h92] at t92
  have HR : Hid (nx = (.one c, 1)) := hide (by rw [HE.out, if_neg h42, if_neg h63, if_neg h91, if_neg h92])
  clear HE h42 h63 h91 h92 HC HD1
  go_enter Tryz.func90, Tryz.ntmps90
  go_wp2_with fail
  refine (same_any c _).mono ?_
  rintro e w1 ⟨g, rfl, hg, hb⟩
  have HG := hide hg
  have hb0 := Blk.below hbox hb (by simp)
  have HB1 := hide (((Below.refl w.heap.size w).alloc (Nat.le_refl _) (.cells #[.bool false, .nilFunc] 106)).trans (hb.mono (by simp)))
  have hc0 := hb0.cell 0
  have hc1 := hb0.cell 1
  have hf0 := hb0.frozen 0
  have hf1 := hb0.frozen 1
  have HN : Hid (g ≠ w.heap.size) := hide (fun e => by subst e; have := hg; unfold Blk at this hb0; rw [hb0] at this; simp at this)
  clear hg hb hb0
  go_wp2_with fail
  change bodyPost Tryz.prog Tryz.f90 (RetNext w nx) Exit.ret _ _
  refine bodyPost_ret (v := .tuple #[.agg #[.bool false, .func (.func 107) #[] #[.pointer (some ⟨g, 0, none⟩)]], .int .i64 1]) (by simp only [results, Tryz.results90]; go_simp) rfl ?_
  exact ⟨_, _, by rw [HR.out] <;> rfl, by rw [HR.out]; exact ⟨rfl, g, rfl, (HG.out.far HN.out _).far HN.out _⟩, (HB1.out.setCell (p := ⟨w.heap.size, 0, none⟩) (Nat.le_refl _) _).setCell (p := ⟨w.heap.size, 1, none⟩) (Nat.le_refl _) _⟩
end Go.Proofs.YtaibmfahfkoahaaGreat
