/- Contracts of glob's elements: class, same, next. -/
import Derived.Test.YtnongbbhpkmdjaaGsA
import Derived.Deep.RegionHeld3
import Derived.Deep.DeepCutAuto
import Derived.Shelf.Strings.IndexAnyAll
import Derived.Laws.EntriesVeiled
namespace Go.Proofs.Ytnongbbhpkmdjaa
open Go.RowKit
set_option linter.unusedVariables false
def classB (p : Bs) : Nat := if Lib.hasPrefix (p.drop 1) [33] = true then 2 else 1
def classN (p : Bs) : Bool := Lib.hasPrefix (p.drop 1) [33]
/-- The class at the beginning of a pattern: its set, whether it is turned round, its size. -/
def classP (p : Bs) : Option ((UInt8 → Bool) × Bool × Nat) :=
  if p.length ≤ classB p then none else
  if Lib.indexByte (p.drop (classB p + 1)) 93 < 0 then none else
  some (itemsF ((p.drop (classB p)).take (1 + (Lib.indexByte (p.drop (classB p + 1)) 93).toNat)), classN p, classB p + 1 + (Lib.indexByte (p.drop (classB p + 1)) 93).toNat + 1)
theorem store_new (f : UInt8 → Bool) (W : World) : (storeCells ⟨W.heap.size, 0, none⟩ (setA f).toList 0).run Try.prog (W.alloc (.cells (setA fun _ => false) 76)) = .ok () (W.alloc (.cells (setA f) 76)) :=
  run_storeCells_new (P := Try.prog) W 76 _ (setA f) (by rw [setA_size]; exact zero51.2) (by rw [setA_size, setA_size]) (by
    rw [Array.all_eq_true_iff_forall_mem]
    intro v hv
    simp only [setA, List.mem_toArray, List.mem_map] at hv
    obtain ⟨i, _, rfl⟩ := hv
    rfl)
/-- What a class's function has captured. -/
def ClsAt (w : World) (g h : Nat) (s : UInt8 → Bool) (n : Bool) : Prop := Blk w g 76 (setA s) ∧ Blk w h 4 #[.bool n]
def clsV (g h : Nat) : Value := .func (.func 54) #[] #[.pointer (some ⟨g, 0, none⟩), .pointer (some ⟨h, 0, none⟩)]
def RetCls (w : World) (r : Option ((UInt8 → Bool) × Bool × Nat)) (e : Ending) (w' : World) : Prop := match r with
  | none => e = .returned (.tuple #[.nilFunc, .int .i64 0]) ∧ Below w.heap.size w w'
  | some (s, n, k) => ∃ g h, e = .returned (.tuple #[.func (.func 54) #[] #[.pointer (some ⟨g, 0, none⟩), .pointer (some ⟨h, 0, none⟩)], .int .i64 k]) ∧ ClsAt w' g h s n ∧ Below w.heap.size w w'
theorem pre_l (l p : Bs) (w : World) : Calls Try.prog 52 #[.string ⟨l.toArray⟩, .string ⟨p.toArray⟩] w fun e w' => e = .returned (.bool (Lib.hasPrefix l p)) ∧ w = w' := by
  refine (Any.strings_HasPrefix Try.lays99 ⟨l.toArray⟩ ⟨p.toArray⟩ w).mono ?_
  rintro e w' ⟨rfl, rfl⟩
  exact ⟨rfl, rfl⟩
theorem ixb_l (l : Bs) (c : UInt8) (w : World) : Calls Try.prog 45 #[.string ⟨l.toArray⟩, .int .u8 (c.toNat : Int)] w fun e w' => e = .returned (.int .i64 (Lib.indexByte l c)) ∧ w = w' := by
  refine (Any.strings_IndexByte Try.lays137 ⟨l.toArray⟩ (c.toNat : Int) w).mono ?_
  rintro e w' ⟨rfl, rfl⟩
  refine ⟨?_, rfl⟩
  simp
theorem index_lt (l : Bs) (c : UInt8) : Lib.indexByte l c < l.length := by
  induction l with
  | nil => simp [Lib.indexByte]
  | cons x t ih =>
    unfold Lib.indexByte
    split
    · simp
    · split
      · simp; omega
      · simp; omega
set_option maxRecDepth 100000 in
set_option maxHeartbeats 4000000 in
theorem class_any (p : Bs) (h1 : 1 ≤ p.length) (hp : p.length ≤ 1000000) (w : World) : Calls Try.prog 47 #[.string ⟨p.toArray⟩] w (RetCls w (classP p)) := by
  have hE : classP p = if p.length ≤ classB p then none else
    if Lib.indexByte (p.drop (classB p + 1)) 93 < 0 then none else
    some (itemsF ((p.drop (classB p)).take (1 + (Lib.indexByte (p.drop (classB p + 1)) 93).toNat)), classN p, classB p + 1 + (Lib.indexByte (p.drop (classB p + 1)) 93).toNat + 1) := rfl
  have hpre := hide (fun W => pre_l (p.drop 1) [33] W)
  have hs1 : (1 : Int) ≤ (p.length : Int) := by omega
  obtain ⟨b, hb, hbr, hbb⟩ : ∃ b, classB p = b ∧ Lib.hasPrefix (p.drop 1) [33] = classN p ∧ b = (if classN p = true then 2 else 1) := ⟨_, rfl, rfl, rfl⟩
  rw [hbr] at hpre
  rw [hb] at hE
  have HE := hide hE
  clear hE hb hbr
  generalize classN p = nt at *
  generalize classP p = cp at *
  by_cases hle : p.length ≤ b
  · have HE2 : Hid (cp = none) := hide (by rw [HE.out, if_pos hle])
    have hge : (p.length : Int) ≤ (b : Int) := by omega
    clear HE
    rw [HE2.out]
    cases nt with
    | false =>
      obtain rfl : b = 1 := by simpa using hbb
      clear hbb
      go_enter Try.func47, Try.ntmps47
      go_wp2_with fail
      rw [ext_from]
      refine (hpre.out _).mono ?_
      rintro e w1 ⟨rfl, rfl⟩
      go_wp2_with fail
      go_ret2
      exact ⟨rfl, (Below.refl _ _).alloc (Nat.le_refl _) _⟩
    | true =>
      obtain rfl : b = 2 := by simpa using hbb
      clear hbb
      go_enter Try.func47, Try.ntmps47
      go_wp2_with fail
      rw [ext_from]
      refine (hpre.out _).mono ?_
      rintro e w1 ⟨rfl, rfl⟩
      go_wp2_with fail
      go_ret2
      exact ⟨rfl, (Below.refl _ _).alloc (Nat.le_refl _) _⟩
  · have hge : ¬ (p.length : Int) ≤ (b : Int) := by omega
    have hz := hide (fun W => ixb_l (p.drop (b + 1)) 93 W)
    have hzl := index_lt (p.drop (b + 1)) 93
    have hzg := Lib.indexByte_ge (p.drop (b + 1)) 93
    rw [List.length_drop] at hzl
    have HE1 : Hid (cp = if Lib.indexByte (p.drop (b + 1)) 93 < 0 then none else some (itemsF ((p.drop b).take (1 + (Lib.indexByte (p.drop (b + 1)) 93).toNat)), nt, b + 1 + (Lib.indexByte (p.drop (b + 1)) 93).toNat + 1)) := hide (by rw [HE.out, if_neg hle])
    clear HE
    generalize Lib.indexByte (p.drop (b + 1)) 93 = z at *
    obtain ⟨q, hq⟩ : ∃ q, p.drop (b + 1) = q := ⟨_, rfl⟩
    rw [hq] at hz
    have HQ := hide hq
    clear hq
    have h93 : ((UInt8.toNat 93 : Nat) : Int) = 93 := rfl
    rw [h93] at hz
    clear h93
    by_cases hz0 : z < 0
    · have HE2 : Hid (cp = none) := hide (by rw [HE1.out, if_pos hz0])
      clear HE1
      rw [HE2.out]
      cases nt with
      | false =>
        obtain rfl : b = 1 := by simpa using hbb
        clear hbb
        go_enter Try.func47, Try.ntmps47
        go_wp2_with fail
        rw [ext_from]
        refine (hpre.out _).mono ?_
        rintro e w1 ⟨rfl, rfl⟩
        go_wp2_with fail
        rw [ext_from, HQ.out]
        refine (hz.out _).mono ?_
        rintro e w2 ⟨rfl, rfl⟩
        go_wp2_with fail
        go_ret2
        exact ⟨rfl, (Below.refl _ _).alloc (Nat.le_refl _) _⟩
      | true =>
        obtain rfl : b = 2 := by simpa using hbb
        clear hbb
        go_enter Try.func47, Try.ntmps47
        go_wp2_with fail
        rw [ext_from]
        refine (hpre.out _).mono ?_
        rintro e w1 ⟨rfl, rfl⟩
        go_wp2_with fail
        rw [ext_from, HQ.out]
        refine (hz.out _).mono ?_
        rintro e w2 ⟨rfl, rfl⟩
        go_wp2_with fail
        go_ret2
        exact ⟨rfl, (Below.refl _ _).alloc (Nat.le_refl _) _⟩
    · obtain ⟨k, rfl⟩ : ∃ k : Nat, z = k := ⟨z.toNat, by omega⟩
      have HE2 : Hid (cp = some (itemsF ((p.drop b).take (1 + k)), nt, b + 1 + k + 1)) := hide (by rw [HE1.out, if_neg hz0]; rfl)
      clear HE1
      rw [HE2.out]
      have hlen3 : ((p.drop b).take (1 + k)).length ≤ 1000000 := by simp; omega
      obtain ⟨it, hit⟩ : ∃ it, (p.drop b).take (1 + k) = it := ⟨_, rfl⟩
      rw [hit] at hlen3 HE2 ⊢
      have HIT := hide hit
      clear hit
      have HI := hide (fun W => items_any it hlen3 W)
      have hz51 := zero51.1
      have hst := store_new (itemsF it)
      cases nt with
      | false =>
        obtain rfl : b = 1 := by simpa using hbb
        clear hbb
        go_enter Try.func47, Try.ntmps47
        go_wp2_with fail
        rw [ext_from]
        refine (hpre.out _).mono ?_
        rintro e w1 ⟨rfl, rfl⟩
        go_wp2_with fail
        rw [ext_from, HQ.out]
        refine (hz.out _).mono ?_
        rintro e w2 ⟨rfl, rfl⟩
        go_wp2_with fail
        rw [ext_two, show 2 + k - 1 = 1 + k by omega, HIT.out]
        obtain ⟨h, hh⟩ : ∃ h, w.heap.size = h := ⟨_, rfl⟩
        obtain ⟨V, hV⟩ : ∃ V, w.alloc (.cells #[.bool false] 4) = V := ⟨_, rfl⟩
        have hBV : Below w.heap.size w V := by rw [← hV]; exact (Below.refl _ _).alloc (Nat.le_refl _) _
        have hN : Blk V h 4 #[.bool false] := by rw [← hV, ← hh]; exact Blk.new w 4 _
        have hhV : h < V.heap.size := by rw [← hV, ← hh]; simp
        rw [hV, hh]
        have HH := hide hh
        have HBV := hide hBV
        have HN := hide hN
        clear hV hBV hN hh
        refine (HI.out _).mono ?_
        rintro e w3 ⟨rfl, hb3⟩
        have HB3 := hide hb3
        have HN3 := hide (HN.out.below hb3 hhV)
        clear hb3
        have hst3 := hst w3
        clear hst
        go_wp2_with fail
        go_ret2
        refine ⟨w3.heap.size, h, rfl, ⟨Blk.new w3 76 _, HN3.out.alloc _⟩, ?_⟩
        have hB := below_more HBV.out (Nat.le_refl _) HB3.out
        exact hB.alloc hB.size _
      | true =>
        obtain rfl : b = 2 := by simpa using hbb
        clear hbb
        go_enter Try.func47, Try.ntmps47
        go_wp2_with fail
        rw [ext_from]
        refine (hpre.out _).mono ?_
        rintro e w1 ⟨rfl, rfl⟩
        go_wp2_with fail
        rw [ext_from, HQ.out]
        refine (hz.out _).mono ?_
        rintro e w2 ⟨rfl, rfl⟩
        go_wp2_with fail
        rw [ext_two, show 3 + k - 2 = 1 + k by omega, HIT.out]
        obtain ⟨h, hh⟩ : ∃ h, w.heap.size = h := ⟨_, rfl⟩
        obtain ⟨V, hV⟩ : ∃ V, w.alloc (.cells #[.bool true] 4) = V := ⟨_, rfl⟩
        have hBV : Below w.heap.size w V := by rw [← hV]; exact (Below.refl _ _).alloc (Nat.le_refl _) _
        have hN : Blk V h 4 #[.bool true] := by rw [← hV, ← hh]; exact Blk.new w 4 _
        have hhV : h < V.heap.size := by rw [← hV, ← hh]; simp
        rw [hV, hh]
        have HH := hide hh
        have HBV := hide hBV
        have HN := hide hN
        clear hV hBV hN hh
        refine (HI.out _).mono ?_
        rintro e w3 ⟨rfl, hb3⟩
        have HB3 := hide hb3
        have HN3 := hide (HN.out.below hb3 hhV)
        clear hb3
        have hst3 := hst w3
        clear hst
        go_wp2_with fail
        go_ret2
        refine ⟨w3.heap.size, h, rfl, ⟨Blk.new w3 76 _, HN3.out.alloc _⟩, ?_⟩
        have hB := below_more HBV.out (Nat.le_refl _) HB3.out
        exact hB.alloc hB.size _
theorem ClsAt.below {w w' : World} {g h : Nat} {s : UInt8 → Bool} {n : Bool} (H : ClsAt w g h s n) (hb : Below w.heap.size w w') : ClsAt w' g h s n := ⟨H.1.below hb H.1.lt, H.2.below hb H.2.lt⟩
end Go.Proofs.Ytnongbbhpkmdjaa
