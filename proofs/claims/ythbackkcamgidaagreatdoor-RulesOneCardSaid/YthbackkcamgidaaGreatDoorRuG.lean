/- rules.split: the words of a line, in memory. -/
import Derived.Test.YthbackkcamgidaaGreatDoorRuF
import Derived.Outline
namespace Go.Proofs.YthbackkcamgidaaGreatDoor
open Go Go.RowKit
set_option linter.unusedVariables false
theorem sp1_any (x : Nat) (hx : x ≤ 1114111) (w : World) : Calls Tryz.prog 92 #[.int .i32 (x : Int)] w fun e w' => e = .returned (.bool (blR x)) ∧ w' = w := by
  by_cases h1 : x = 32
  · subst h1
    show Calls _ _ _ _ fun e w' => e = .returned (.bool true) ∧ w' = w
    go_enter Tryz.func92, Tryz.ntmps92
    go_wp2_with fail
    go_ret
    exact ⟨rfl, rfl⟩
  have k1 : ((x : Int) == 32) = false := beq_eq_false_iff_ne.2 (by omega)
  by_cases h2 : x = 9
  · subst h2
    show Calls _ _ _ _ fun e w' => e = .returned (.bool true) ∧ w' = w
    go_enter Tryz.func92, Tryz.ntmps92
    go_wp2_with fail
    go_ret
    exact ⟨rfl, rfl⟩
  have k2 : ((x : Int) == 9) = false := beq_eq_false_iff_ne.2 (by omega)
  have hb : blR x = false := by unfold blR; simp [h1, h2]
  rw [hb]
  clear hb h1 h2 hx
  go_enter Tryz.func92, Tryz.ntmps92
  go_wp2_with fail
  go_ret
  exact ⟨rfl, rfl⟩
theorem hash_pre (k : LB) : Lib.hasPrefix k [35] = hsh k := by
  unfold hsh Lib.hasPrefix
  cases k with
  | nil => rfl
  | cons x r =>
    rw [List.headD_cons, List.isPrefixOf]
    by_cases h : x = 35
    · subst h; simp [List.isPrefixOf]
    · rw [beq_eq_false_iff_ne.2 h, beq_eq_false_iff_ne.2 (fun e => h e.symm), Bool.false_and]
theorem sp2_any (k : LB) (w : World) : Calls Tryz.prog 94 #[.string ⟨k.toArray⟩] w fun e w' => e = .returned (.bool (hsh k)) ∧ w = w' := by
  have X := hide (fun W => pre_l k [35] W)
  rw [hash_pre] at X
  generalize hsh k = r at *
  go_enter Tryz.func94, Tryz.ntmps94
  go_wp2_with fail
  refine (X.out _).mono ?_
  rintro e w1 ⟨rfl, rfl⟩
  go_wp2_with fail
  go_ret
  exact ⟨rfl, rfl⟩
/-- Where the first remark stands. -/
def idxH : List LB → Option Nat
  | [] => none
  | k :: r => if hsh k = true then some 0 else (idxH r).map (· + 1)
theorem idxH_drop (l : List LB) (i : Nat) (h : i < l.length) : (idxH (l.drop i)).map (· + i) = if hsh l[i] = true then some i else (idxH (l.drop (i + 1))).map (· + (i + 1)) := by
  rw [List.drop_eq_getElem_cons h, idxH]
  split
  · simp
  · rw [Option.map_map]
    congr 1
    funext x
    simp [Function.comp]; omega
theorem idxH_take : ∀ (l : List LB), l.takeWhile (fun w => !hsh w) = match idxH l with | none => l | some k => l.take k
  | [] => rfl
  | k :: r => by
    have ih := idxH_take r
    rw [idxH]
    cases hk : hsh k with
    | true => rw [List.takeWhile_cons_of_neg (by simp [hk])]; rfl
    | false =>
      rw [List.takeWhile_cons_of_pos (by simp [hk]), ih]
      cases idxH r <;> rfl
theorem idxH_lt : ∀ {l : List LB} {k : Nat}, idxH l = some k → k < l.length
  | [], k, h => by cases h
  | x :: r, k, h => by
    rw [idxH] at h
    split at h
    · injection h with h; subst h; simp
    · obtain ⟨j, hj, rfl⟩ := Option.map_eq_some_iff.1 h
      have := idxH_lt hj
      simpa using this
set_option maxHeartbeats 4000000 in
theorem idxH_any (l : List LB) (A : Option Addr) (n c : Nat) (w : World) (hA : Reads w w.heap.size 1 A n (svs l)) (hn : n ≤ 1000000000000) :
    Calls Tryz.prog 93 #[.slice A n c, .func (.func 94) #[] #[]] w fun e w' => e = .returned (.int .i64 (idxZ (idxH l))) ∧ w = w' := by
  have hl : l.length = n := by have := hA.1; rw [svs_length] at this; omega
  have HA := hide hA
  have X := hide (fun k W => sp2_any k W)
  obtain ⟨R, hR⟩ : ∃ R, idxZ (idxH l) = R := ⟨_, rfl⟩
  rw [hR]
  have HR := hide hR
  clear hA hR
  go_enter Tryz.func93, Tryz.ntmps93
  go_wp2_with fail
  go_loopw [5, 8] (fun _ u8 wx => ∃ (i : Nat), i ≤ n ∧ u8 = .int .i64 i ∧ w = wx ∧ Hid (R = idxZ ((idxH (l.drop i)).map (· + i)))) (fun _ u8 _ => n - (intOf u8).toNat)
  case atStart => exact ⟨0, Nat.zero_le _, rfl, rfl, hide (by rw [← HR.out]; simp)⟩
  case round =>
    obtain ⟨i, hi, rfl, rfl, HX⟩ := hrel
    by_cases hlt : i < n
    · obtain ⟨g1, o1, rfl, hg, hc1⟩ := cells_of HA.out (by omega) (by rw [svs_length]; omega)
      have hcell : w.cell? ⟨g1, o1 + i, none⟩ = some (.string ⟨(l[i]'(by omega)).toArray⟩) := hc1 i _ (svs_get l i (by omega))
      have HD := hide (HX.out.trans (congrArg idxZ (idxH_drop l i (by omega))))
      have hi1 : (i : Int) < (n : Int) := by omega
      have hi0 : (0 : Int) ≤ (i : Int) := by omega
      have kw : IntKind.i64.wrap ((i : Int) + 1) = (i : Int) + 1 := by simp [IntKind.wrap, IntKind.bits, IntKind.signed]; omega
      generalize l[i]'(by omega) = o at *
      have XO := hide (fun W => X.out o W)
      clear hc1 HX
      cases hq : hsh o with
      | true =>
        rw [hq] at XO
        have HR2 : Hid (R = (i : Int)) := hide (by rw [HD.out, hq]; rfl)
        clear hq HD
        go_wp2_with fail
        refine (XO.out _).mono ?_
        rintro e w1 ⟨rfl, rfl⟩
        go_wp2_with fail
        go_ret
        exact ⟨by rw [HR2.out]; rfl, rfl⟩
      | false =>
        rw [hq] at XO
        have HR2 : Hid (R = idxZ ((idxH (l.drop (i + 1))).map (· + (i + 1)))) := hide (by rw [HD.out, hq]; rfl)
        clear hq HD
        go_wp2_with fail
        refine (XO.out _).mono ?_
        rintro e w1 ⟨rfl, rfl⟩
        go_wp2_with fail
        go_roundw
        case rel => exact ⟨i + 1, by omega, by go_num, by trivial, HR2⟩
        case measure => simp [intOf]; omega
    · obtain rfl : i = n := by omega
      have HR2 : Hid (R = -1) := hide (by rw [HX.out, List.drop_of_length_le (by omega)]; rfl)
      clear HX
      go_wp2_with fail
      go_ret
      exact ⟨by rw [HR2.out]; rfl, rfl⟩
/-- A row of texts that is read, in a block of texts. -/
structure TyS (w : World) (A : Option Addr) (n c : Nat) (ks : List LB) : Prop where
  rd : Reads w w.heap.size 1 A n (svs ks)
  le : n ≤ c
  ty : ∀ ad, A = some ad → ∃ cur, w.heap[ad.block]? = some (.cells cur 9 (0, 0))
theorem TyS.len {w : World} {A : Option Addr} {n c : Nat} {ks : List LB} (h : TyS w A n c ks) : ks.length = n := by have := h.rd.1; rw [svs_length] at this; omega
theorem TyS.below {w w' : World} {A : Option Addr} {n c : Nat} {ks : List LB} (h : TyS w A n c ks) (hb : Below w.heap.size w w') : TyS w' A n c ks :=
  ⟨(Reads.below h.rd hb).more hb.size, h.le, fun ad e => by
    obtain ⟨cur, hc⟩ := h.ty ad e
    exact ⟨cur, (hb.block _ (Array.getElem?_eq_some_iff.1 hc).1).trans hc⟩⟩
theorem TyS.of_own {w : World} {B n c : Nat} {A : Option Addr} {ks : List LB} (h : w.ownsRow B 9 1 (.slice A n c) n (svs ks)) : TyS w A n c ks := by
  refine ⟨Reads.of_own h, own_le h, fun ad e => ?_⟩
  rcases h.2 with ⟨hv, h0⟩ | ⟨g, cap, cur, hv, hb, hh, hnc, hmx, hsz, htk⟩
  · injection hv with e1 e2 e3; rw [e] at e1; cases e1
  · injection hv with e1 e2 e3
    rw [e] at e1
    injection e1 with e1
    subst e1
    exact ⟨cur, hh⟩
theorem TyS.take {w : World} {A : Option Addr} {n c k : Nat} {ks : List LB} (h : TyS w A n c ks) (hk : k ≤ n) : TyS w A k k (ks.take k) :=
  ⟨by have := Reads.take h.rd hk; rwa [show (svs ks).take k = svs (ks.take k) by simp [svs, List.map_take]] at this, Nat.le_refl _, h.ty⟩
theorem fields_pred (w : World) : PredAtRunes Tryz.prog 92 #[] blR w := by
  intro W x hx _
  refine (sp1_any x hx W).mono ?_
  rintro e w' ⟨h1, h2⟩
  exact ⟨h1, 0, h2⟩
set_option maxHeartbeats 4000000 in
theorem split_any (l : LB) (hl : l.length ≤ 4000000000) (w : World) : Calls Tryz.prog 71 #[.string ⟨l.toArray⟩] w fun e w' => ∃ A n c, e = .returned (.slice A n c) ∧ TyS w' A n c (wordsU l) ∧ Below w.heap.size w w' := by
  have hF := Any.strings_FieldsFunc_runes Tryz.lays229 92 #[] (enters_of Tryz.func92 (by kernel_rfl) rfl) blR ⟨l.toArray⟩ w (by show l.length ≤ _; omega) (fields_pred w) (by kernel_rfl) (by kernel_rfl)
  rw [fields_eq, List.length_map, List.map_map] at hF
  have e1 : (fA [] l).map (Value.string ∘ bx) = svs (fA [] l) := rfl
  rw [e1] at hF
  have XF : Hid (Calls Tryz.prog 91 #[.string ⟨l.toArray⟩, .func (.func 92) #[] #[]] w fun e w' => ∃ A, e = .returned (.slice (some ⟨A, 0, none⟩) (fA [] l).length (fA [] l).length) ∧ w.heap.size ≤ A ∧ w'.ownsRow w.heap.size 9 1 (.slice (some ⟨A, 0, none⟩) (fA [] l).length (fA [] l).length) (fA [] l).length (svs (fA [] l)) ∧ Below w.heap.size w w') := hF
  have HW : Hid (wordsU l = match idxH (fA [] l) with | none => fA [] l | some k => (fA [] l).take k) := hide (idxH_take _)
  have hfl : (fA [] l).length ≤ 4000000000 := by
    have h1 := fA_len l []
    have h2 : ∀ ks : List LB, (∀ k ∈ ks, k ≠ []) → ks.length ≤ (ks.map List.length).sum := by
      intro ks
      induction ks with
      | nil => intro _; simp
      | cons x r ih =>
        intro hk
        have h3 := ih fun k hk' => hk k (List.mem_cons_of_mem _ hk')
        have h4 := List.length_pos_iff.2 (hk x List.mem_cons_self)
        simp; omega
    have h3 := h2 _ (fun k hk => (fA_mem l [] (by simp) k hk).1)
    simp at h1
    omega
  clear hF e1
  generalize fA [] l = F at *
  generalize wordsU l = R at *
  have XI := hide (fun A n c W h hn => idxH_any F A n c W h hn)
  cases hix : idxH F with
  | none =>
    rw [hix] at HW
    have HR : Hid (R = F) := hide HW.out
    rw [hix] at XI
    clear hix HW
    go_enter Tryz.func71, Tryz.ntmps71
    go_wp2_with fail
    refine XF.out.mono ?_
    rintro e w1 ⟨A, rfl, hA, hown, hb⟩
    have HO := hide (TyS.of_own hown)
    have HB := hide hb
    clear hown hb XF
    have XI2 := hide (XI.out (some ⟨A, 0, none⟩) F.length F.length w1 HO.out.rd (by omega))
    go_wp2_with fail
    refine XI2.out.mono ?_
    rintro e w2 ⟨rfl, rfl⟩
    go_wp2_with fail
    go_ret
    exact ⟨_, _, _, rfl, by rw [HR.out]; exact HO.out, HB.out⟩
  | some k =>
    rw [hix] at HW XI
    have hk := idxH_lt hix
    have HR : Hid (R = F.take k) := hide HW.out
    have XI3 : Hid (∀ A n c W (h : Reads W W.heap.size 1 A n (svs F)) (hn : n ≤ 1000000000000), Calls Tryz.prog 93 #[.slice A n c, .func (.func 94) #[] #[]] W fun e w' => e = .returned (.int .i64 (k : Int)) ∧ W = w') := XI
    clear hix HW XI
    go_enter Tryz.func71, Tryz.ntmps71
    go_wp2_with fail
    refine XF.out.mono ?_
    rintro e w1 ⟨A, rfl, hA, hown, hb⟩
    have HO := hide (TyS.of_own hown)
    have HB := hide hb
    clear hown hb XF
    have XI2 := hide (XI3.out (some ⟨A, 0, none⟩) F.length F.length w1 HO.out.rd (by omega))
    have k0 : (0 : Int) ≤ (k : Int) := by omega
    have k1 : (k : Int) ≤ (F.length : Int) := by omega
    have hsl : ∀ V, (Instr.slice 38 (.slice (some ⟨A, 0, none⟩) F.length F.length) none (some (.int .i64 (k : Int))) (some (.int .i64 (k : Int)))).run Tryz.prog V = .ok (.slice (some ⟨A, 0, none⟩) k k) V := fun V => by
      rw [run_slice_hm V 38 (some ⟨A, 0, none⟩) F.length F.length (slice_ht Tryz.underlying38) .i64 .i64 (k : Int) (k : Int) (by omega) (by omega) (by omega)]
      have hE : Tryz.prog.elem 38 = 9 := by simp [Program.elem, Tryz.underlying38]
      rw [hE, run_sizeOf_one 9 sizeStr]
      simp [Result.andThen, sliced, add_zero_]
    go_wp2_with fail
    refine XI2.out.mono ?_
    rintro e w2 ⟨rfl, rfl⟩
    go_wp2_with fail
    go_ret
    exact ⟨_, _, _, rfl, by rw [HR.out]; exact HO.out.take (by omega), HB.out⟩
end Go.Proofs.YthbackkcamgidaaGreatDoor
