/- Contracts of lex.step, lex.skip, lex.Skip. -/
import Derived.Test.YtpfcfcbljkdkhaaDoorLexE
namespace Go.Proofs.YtpfcfcbljkdkhaaDoor
open Go.RowKit
set_option linter.unusedVariables false
theorem drop_getD (p : LB) (i j : Nat) : (p.drop i).getD j 0 = p.getD (i + j) 0 := by
  rw [List.getD_eq_getElem?_getD, List.getD_eq_getElem?_getD, List.getElem?_drop]
theorem last_cell {w : World} {A : Option Addr} {n : Nat} {cl : LB} (h : Rd w A n cl) (hn : 0 < n) : ∃ ad, A = some ad ∧ ad.block < w.heap.size ∧ w.cell? (ad.add (n - 1)) = some (.int .u8 ((cl.getLastD 0).toNat : Int)) := by
  obtain ⟨ad, e, hb, hc⟩ := h.get (k := n - 1) (by omega)
  refine ⟨ad, e, hb, ?_⟩
  rw [hc]
  have hl := h.len
  have : cl.getD (n - 1) 0 = cl.getLastD 0 := by
    rw [List.getLastD_eq_getLast?, List.getLast?_eq_getElem?, List.getD_eq_getElem?_getD, hl]
  rw [this]
set_option maxRecDepth 100000 in
set_option maxHeartbeats 8000000 in
theorem step_nil (p : LB) (i : Nat) (cl : LB) (A : Option Addr) (n cc : Nat) (w : World) (hi : i < p.length) (hl : p.length ≤ 100000) (hcl : cl.length ≤ 100000) (hA : Rd w A n cl) (hn : n = 0) :
    Calls Tryd.prog 38 #[.string ⟨p.toArray⟩, .int .i64 (i : Int), .slice A n cc] w fun e w' => e = .returned (.tuple #[.int .i64 ((stepL p i cl).1 : Int), .int .u8 ((stepL p i cl).2.1.toNat : Int), .bool (stepL p i cl).2.2]) ∧ Below w.heap.size w w' := by
  have XS := hide (fun W => single_any p (i + 1) (by omega) hl W)
  have hE : stepL p i cl = if p.getD i 0 = 0 ∨ p.getD i 0 = 96 then (i, 0, false) else if p.getD i 0 = 92 then (if i + 1 < p.length ∧ p.getD (i + 1) 0 = 0 then (i + 1, 0, false) else (min (i + 2) p.length, 0, true)) else if p.getD i 0 = cl.getLastD 0 then (i + 1, 0, true) else if p.getD i 0 = 36 ∧ p.getD (i + 1) 0 = 40 then (i + 2, 41, true) else if p.getD i 0 = 36 ∧ p.getD (i + 1) 0 = 123 then (i + 2, 125, true) else if cl.getLastD 0 = 34 then (i + 1, 0, true) else if p.getD i 0 = 34 then (i + 1, 34, true) else if p.getD i 0 = 40 then (i + 1, 41, true) else if p.getD i 0 = 39 then singleL p (i + 1) else (i + 1, 0, true) := rfl
  have hsl : ∀ W, (Instr.slice 9 (.string ⟨p.toArray⟩) (some (.int .i64 (i : Int))) none none).run Tryd.prog W = .ok (.string ⟨(p.drop i).toArray⟩) W := fun W => by
    rw [run_slice_string_from_if W 9 ⟨p.toArray⟩ .i64 (i : Int) Tryd.underlying9, if_pos ⟨by omega, by show (i : Int) ≤ ((p.length : Nat) : Int); omega⟩]
    show Result.ok (Value.string ((⟨p.toArray⟩ : ByteArray).extract i p.length)) W = _
    rw [ext_from]
  have hRl : (p.drop i).length + i = p.length := by rw [List.length_drop]; omega
  have g0 := drop_getD p i 0
  have g1 := drop_getD p i 1
  rw [Nat.add_zero] at g0
  obtain ⟨R, hR⟩ : ∃ R, p.drop i = R := ⟨_, rfl⟩
  rw [hR] at hsl hRl g0 g1
  have hix0 : ∀ W, (Instr.index 9 (.string ⟨R.toArray⟩) (.int .i64 0)).run Tryd.prog W = .ok (.int .u8 ((p.getD i 0).toNat : Int)) W := by
    have := ix_l R 0 (R.getD 0 0) (getD_some (by omega))
    rw [g0] at this; exact this
  have hix1 : 1 < R.length → ∀ W, (Instr.index 9 (.string ⟨R.toArray⟩) (.int .i64 1)).run Tryd.prog W = .ok (.int .u8 ((p.getD (i + 1) 0).toNat : Int)) W := fun h => by
    have := ix_l R 1 (R.getD 1 0) (getD_some h)
    rw [g1] at this; exact this
  have e1 : Lib.hasPrefix R [36, 40] = (p.getD i 0 == 36 && p.getD (i + 1) 0 == 40) := by rw [pre_two 36 40 R (by decide) (by decide), g0, g1]
  have e2 : Lib.hasPrefix R [36, 123] = (p.getD i 0 == 36 && p.getD (i + 1) 0 == 123) := by rw [pre_two 36 123 R (by decide) (by decide), g0, g1]
  have P1 := hide (fun W => pre_l R [36, 40] W)
  have P2 := hide (fun W => pre_l R [36, 123] W)
  rw [e1] at P1
  rw [e2] at P2
  clear e1 e2 g0 g1 hR
  have hcn : cl = [] := List.eq_nil_of_length_eq_zero (by have := hA.len; omega)
  subst hn
  generalize p.getD i 0 = c at *
  generalize p.getD (i + 1) 0 = d at *
  generalize hq : cl.getLastD 0 = q at *
  generalize hrr : stepL p i cl = r at *
  have HE := hide hE
  have HX1 := hide hix1
  have HRL := hide hRl
  have hs1 : (i : Int) ≤ (p.length : Int) := by omega
  have hw1 : IntKind.i64.wrap ((i : Int) + 1) = (i : Int) + 1 := by simp [IntKind.wrap, IntKind.bits, IntKind.signed]; omega
  have hw2 : IntKind.i64.wrap ((i : Int) + 2) = (i : Int) + 2 := by simp [IntKind.wrap, IntKind.bits, IntKind.signed]; omega
  have t0 := u8_beq c 0
  have t96 := u8_beq c 96
  have t92 := u8_beq c 92
  have tq := u8_beq c q
  have q34 := u8_beq q 34
  have t34 := u8_beq c 34
  have t40 := u8_beq c 40
  have t39 := u8_beq c 39
  change ((c.toNat : Int) == 0) = _ at t0
  change ((c.toNat : Int) == 96) = _ at t96
  change ((c.toNat : Int) == 92) = _ at t92
  change ((q.toNat : Int) == 34) = _ at q34
  change ((c.toNat : Int) == 34) = _ at t34
  change ((c.toNat : Int) == 40) = _ at t40
  change ((c.toNat : Int) == 39) = _ at t39
  clear hE hix1 hRl hrr hcl
  obtain rfl : q = 0 := by rw [← hq, hcn]; rfl
  clear hq
  by_cases h0 : c = 0
  · rw [beq_iff_eq.2 h0] at t0
    have HR2 : Hid (r = (i, 0, false)) := hide (by rw [HE.out, if_pos (.inl h0)])
    clear HE h0
    go_enter Tryd.func38, Tryd.ntmps38
    go_wp2_with fail
    go_ret3
    exact ⟨by rw [HR2.out]; first | rfl | (simp; done) | (simp; omega), Below.refl _ _⟩
  rw [beq_eq_false_iff_ne.2 h0] at t0
  by_cases h96 : c = 96
  · rw [beq_iff_eq.2 h96] at t96
    have HR2 : Hid (r = (i, 0, false)) := hide (by rw [HE.out, if_pos (.inr h96)])
    clear HE h0 h96
    go_enter Tryd.func38, Tryd.ntmps38
    go_wp2_with fail
    go_ret3
    exact ⟨by rw [HR2.out]; first | rfl | (simp; done) | (simp; omega), Below.refl _ _⟩
  rw [beq_eq_false_iff_ne.2 h96] at t96
  replace HE := hide (HE.out.trans (if_neg (fun h => h.elim h0 h96)))
  by_cases h92 : c = 92
  · rw [beq_iff_eq.2 h92] at t92
    replace HE := hide (HE.out.trans (if_pos h92))
    by_cases hlen : i + 1 < p.length
    · have k1 : (1 : Int) < (R.length : Int) := by have := HRL.out; omega
      have hix1 := HX1.out (by omega)
      have d0 := u8_beq d 0
      change ((d.toNat : Int) == 0) = _ at d0
      by_cases hd : d = 0
      · rw [beq_iff_eq.2 hd] at d0
        have HR2 : Hid (r = (i + 1, 0, false)) := hide (by rw [HE.out, if_pos ⟨hlen, hd⟩])
        clear HE h0 h96 h92 hd hlen
        go_enter Tryd.func38, Tryd.ntmps38
        go_wp2_with fail
        go_ret3
        exact ⟨by rw [HR2.out]; first | rfl | (simp; done) | (simp; omega), Below.refl _ _⟩
      · rw [beq_eq_false_iff_ne.2 hd] at d0
        have HR2 : Hid (r = (i + 2, 0, true)) := hide (by rw [HE.out, if_neg (fun h => hd h.2), Nat.min_eq_left (by omega)])
        have k2 : (i : Int) + 2 ≤ (p.length : Int) := by omega
        clear HE h0 h96 h92 hd hlen
        go_enter Tryd.func38, Tryd.ntmps38
        go_wp2_with fail
        go_ret3
        exact ⟨by rw [HR2.out]; first | rfl | (simp; done) | (simp; omega), Below.refl _ _⟩
    · have k1 : ¬ (1 : Int) < (R.length : Int) := by have := HRL.out; omega
      have HR2 : Hid (r = (p.length, 0, true)) := hide (by rw [HE.out, if_neg (fun h => hlen h.1), Nat.min_eq_right (by omega)])
      have k2 : (p.length : Int) < (i : Int) + 2 := by omega
      clear HE h0 h96 h92 hlen
      go_enter Tryd.func38, Tryd.ntmps38
      go_wp2_with fail
      go_ret3
      exact ⟨by rw [HR2.out]; first | rfl | (simp; done) | (simp; omega), Below.refl _ _⟩
  rw [beq_eq_false_iff_ne.2 h92] at t92
  replace HE := hide (HE.out.trans (if_neg h92))
  replace HE := hide (HE.out.trans (if_neg h0))
  by_cases h1 : c = 36 ∧ d = 40
  · have B1 : (c == 36 && d == 40) = true := by rw [h1.1, h1.2]; rfl
    have HR2 : Hid (r = (i + 2, 41, true)) := hide (by rw [HE.out, if_pos h1])
    clear HE h0 h96 h92 h1
    go_enter Tryd.func38, Tryd.ntmps38
    go_wp2_with fail
    refine (P1.out _).mono ?_
    rintro e w5 ⟨rfl, rfl⟩
    try rw [B1]
    go_wp2_with fail
    go_ret3
    exact ⟨by rw [HR2.out]; first | rfl | (simp; done) | (simp; omega), Below.refl _ _⟩
  have B1 : (c == 36 && d == 40) = false := by
    rw [Bool.and_eq_false_iff, beq_eq_false_iff_ne, beq_eq_false_iff_ne]
    by_cases a : c = 36
    · exact .inr fun b => h1 ⟨a, b⟩
    · exact .inl a
  replace HE := hide (HE.out.trans (if_neg h1))
  by_cases h2 : c = 36 ∧ d = 123
  · have B2 : (c == 36 && d == 123) = true := by rw [h2.1, h2.2]; rfl
    have HR2 : Hid (r = (i + 2, 125, true)) := hide (by rw [HE.out, if_pos h2])
    clear HE h0 h96 h92 h1 h2
    go_enter Tryd.func38, Tryd.ntmps38
    go_wp2_with fail
    refine (P1.out _).mono ?_
    rintro e w5 ⟨rfl, rfl⟩
    try rw [B1]
    go_wp2_with fail
    refine (P2.out _).mono ?_
    rintro e w6 ⟨rfl, rfl⟩
    try rw [B2]
    go_wp2_with fail
    go_ret3
    exact ⟨by rw [HR2.out]; first | rfl | (simp; done) | (simp; omega), Below.refl _ _⟩
  have B2 : (c == 36 && d == 123) = false := by
    rw [Bool.and_eq_false_iff, beq_eq_false_iff_ne, beq_eq_false_iff_ne]
    by_cases a : c = 36
    · exact .inr fun b => h2 ⟨a, b⟩
    · exact .inl a
  replace HE := hide (HE.out.trans (if_neg h2))
  replace HE := hide (HE.out.trans (if_neg (by decide)))
  by_cases h34 : c = 34
  · rw [beq_iff_eq.2 h34] at t34
    have HR2 : Hid (r = (i + 1, 34, true)) := hide (by rw [HE.out, if_pos h34])
    clear HE h0 h96 h92 h1 h2 h34
    go_enter Tryd.func38, Tryd.ntmps38
    go_wp2_with fail
    refine (P1.out _).mono ?_
    rintro e w5 ⟨rfl, rfl⟩
    try rw [B1]
    go_wp2_with fail
    refine (P2.out _).mono ?_
    rintro e w6 ⟨rfl, rfl⟩
    try rw [B2]
    go_wp2_with fail
    go_ret3
    exact ⟨by rw [HR2.out]; first | rfl | (simp; done) | (simp; omega), Below.refl _ _⟩
  rw [beq_eq_false_iff_ne.2 h34] at t34
  replace HE := hide (HE.out.trans (if_neg h34))
  by_cases h40 : c = 40
  · rw [beq_iff_eq.2 h40] at t40
    have HR2 : Hid (r = (i + 1, 41, true)) := hide (by rw [HE.out, if_pos h40])
    clear HE h0 h96 h92 h34 h1 h2 h40
    go_enter Tryd.func38, Tryd.ntmps38
    go_wp2_with fail
    refine (P1.out _).mono ?_
    rintro e w5 ⟨rfl, rfl⟩
    try rw [B1]
    go_wp2_with fail
    refine (P2.out _).mono ?_
    rintro e w6 ⟨rfl, rfl⟩
    try rw [B2]
    go_wp2_with fail
    go_ret3
    exact ⟨by rw [HR2.out]; first | rfl | (simp; done) | (simp; omega), Below.refl _ _⟩
  rw [beq_eq_false_iff_ne.2 h40] at t40
  replace HE := hide (HE.out.trans (if_neg h40))
  by_cases h39 : c = 39
  · rw [beq_iff_eq.2 h39] at t39
    have HR2 : Hid (r = singleL p (i + 1)) := hide (by rw [HE.out, if_pos h39])
    clear HE h0 h96 h92 h34 h40 h1 h2 h39
    go_enter Tryd.func38, Tryd.ntmps38
    go_wp2_with fail
    refine (P1.out _).mono ?_
    rintro e w5 ⟨rfl, rfl⟩
    try rw [B1]
    go_wp2_with fail
    refine (P2.out _).mono ?_
    rintro e w6 ⟨rfl, rfl⟩
    try rw [B2]
    go_wp2_with fail
    refine (XS.out _).mono ?_
    rintro e w9 ⟨rfl, hb9⟩
    have HB9 := hide hb9
    clear hb9
    go_wp2_with fail
    go_ret3
    exact ⟨by rw [HR2.out]; rfl, HB9.out⟩
  rw [beq_eq_false_iff_ne.2 h39] at t39
  have HR2 : Hid (r = (i + 1, 0, true)) := hide (by rw [HE.out, if_neg h39])
  clear HE h0 h96 h92 h34 h40 h1 h2 h39
  go_enter Tryd.func38, Tryd.ntmps38
  go_wp2_with fail
  refine (P1.out _).mono ?_
  rintro e w5 ⟨rfl, rfl⟩
  try rw [B1]
  go_wp2_with fail
  refine (P2.out _).mono ?_
  rintro e w6 ⟨rfl, rfl⟩
  try rw [B2]
  go_wp2_with fail
  go_ret3
  exact ⟨by rw [HR2.out]; first | rfl | (simp; done) | (simp; omega), Below.refl _ _⟩
set_option maxRecDepth 100000 in
set_option maxHeartbeats 8000000 in
theorem step_cons (p : LB) (i : Nat) (cl : LB) (A : Option Addr) (n cc : Nat) (w : World) (hi : i < p.length) (hl : p.length ≤ 100000) (hcl : cl.length ≤ 100000) (hA : Rd w A n cl) (hn : 0 < n) :
    Calls Tryd.prog 38 #[.string ⟨p.toArray⟩, .int .i64 (i : Int), .slice A n cc] w fun e w' => e = .returned (.tuple #[.int .i64 ((stepL p i cl).1 : Int), .int .u8 ((stepL p i cl).2.1.toNat : Int), .bool (stepL p i cl).2.2]) ∧ Below w.heap.size w w' := by
  have XS := hide (fun W => single_any p (i + 1) (by omega) hl W)
  have hE : stepL p i cl = if p.getD i 0 = 0 ∨ p.getD i 0 = 96 then (i, 0, false) else if p.getD i 0 = 92 then (if i + 1 < p.length ∧ p.getD (i + 1) 0 = 0 then (i + 1, 0, false) else (min (i + 2) p.length, 0, true)) else if p.getD i 0 = cl.getLastD 0 then (i + 1, 0, true) else if p.getD i 0 = 36 ∧ p.getD (i + 1) 0 = 40 then (i + 2, 41, true) else if p.getD i 0 = 36 ∧ p.getD (i + 1) 0 = 123 then (i + 2, 125, true) else if cl.getLastD 0 = 34 then (i + 1, 0, true) else if p.getD i 0 = 34 then (i + 1, 34, true) else if p.getD i 0 = 40 then (i + 1, 41, true) else if p.getD i 0 = 39 then singleL p (i + 1) else (i + 1, 0, true) := rfl
  have hsl : ∀ W, (Instr.slice 9 (.string ⟨p.toArray⟩) (some (.int .i64 (i : Int))) none none).run Tryd.prog W = .ok (.string ⟨(p.drop i).toArray⟩) W := fun W => by
    rw [run_slice_string_from_if W 9 ⟨p.toArray⟩ .i64 (i : Int) Tryd.underlying9, if_pos ⟨by omega, by show (i : Int) ≤ ((p.length : Nat) : Int); omega⟩]
    show Result.ok (Value.string ((⟨p.toArray⟩ : ByteArray).extract i p.length)) W = _
    rw [ext_from]
  have hRl : (p.drop i).length + i = p.length := by rw [List.length_drop]; omega
  have g0 := drop_getD p i 0
  have g1 := drop_getD p i 1
  rw [Nat.add_zero] at g0
  obtain ⟨R, hR⟩ : ∃ R, p.drop i = R := ⟨_, rfl⟩
  rw [hR] at hsl hRl g0 g1
  have hix0 : ∀ W, (Instr.index 9 (.string ⟨R.toArray⟩) (.int .i64 0)).run Tryd.prog W = .ok (.int .u8 ((p.getD i 0).toNat : Int)) W := by
    have := ix_l R 0 (R.getD 0 0) (getD_some (by omega))
    rw [g0] at this; exact this
  have hix1 : 1 < R.length → ∀ W, (Instr.index 9 (.string ⟨R.toArray⟩) (.int .i64 1)).run Tryd.prog W = .ok (.int .u8 ((p.getD (i + 1) 0).toNat : Int)) W := fun h => by
    have := ix_l R 1 (R.getD 1 0) (getD_some h)
    rw [g1] at this; exact this
  have e1 : Lib.hasPrefix R [36, 40] = (p.getD i 0 == 36 && p.getD (i + 1) 0 == 40) := by rw [pre_two 36 40 R (by decide) (by decide), g0, g1]
  have e2 : Lib.hasPrefix R [36, 123] = (p.getD i 0 == 36 && p.getD (i + 1) 0 == 123) := by rw [pre_two 36 123 R (by decide) (by decide), g0, g1]
  have P1 := hide (fun W => pre_l R [36, 40] W)
  have P2 := hide (fun W => pre_l R [36, 123] W)
  rw [e1] at P1
  rw [e2] at P2
  clear e1 e2 g0 g1 hR
  obtain ⟨ad, rfl, hadb, hcell⟩ := last_cell hA hn
  have hnn : (0 : Int) < (n : Int) := by omega
  have hn1 : IntKind.i64.wrap ((n : Int) - 1) = (n : Int) - 1 := by have := hA.len; simp [IntKind.wrap, IntKind.bits, IntKind.signed]; omega
  have hn2 : (0 : Int) ≤ (n : Int) - 1 := by omega
  have hn3 : (n : Int) - 1 < (n : Int) := by omega
  have hn4 : ((n : Int) - 1).toNat = n - 1 := by omega
  generalize p.getD i 0 = c at *
  generalize p.getD (i + 1) 0 = d at *
  generalize hq : cl.getLastD 0 = q at *
  generalize hrr : stepL p i cl = r at *
  have HE := hide hE
  have HX1 := hide hix1
  have HRL := hide hRl
  have hs1 : (i : Int) ≤ (p.length : Int) := by omega
  have hw1 : IntKind.i64.wrap ((i : Int) + 1) = (i : Int) + 1 := by simp [IntKind.wrap, IntKind.bits, IntKind.signed]; omega
  have hw2 : IntKind.i64.wrap ((i : Int) + 2) = (i : Int) + 2 := by simp [IntKind.wrap, IntKind.bits, IntKind.signed]; omega
  have t0 := u8_beq c 0
  have t96 := u8_beq c 96
  have t92 := u8_beq c 92
  have tq := u8_beq c q
  have q34 := u8_beq q 34
  have t34 := u8_beq c 34
  have t40 := u8_beq c 40
  have t39 := u8_beq c 39
  change ((c.toNat : Int) == 0) = _ at t0
  change ((c.toNat : Int) == 96) = _ at t96
  change ((c.toNat : Int) == 92) = _ at t92
  change ((q.toNat : Int) == 34) = _ at q34
  change ((c.toNat : Int) == 34) = _ at t34
  change ((c.toNat : Int) == 40) = _ at t40
  change ((c.toNat : Int) == 39) = _ at t39
  clear hE hix1 hRl hrr hcl
  clear hq
  by_cases h0 : c = 0
  · rw [beq_iff_eq.2 h0] at t0
    have HR2 : Hid (r = (i, 0, false)) := hide (by rw [HE.out, if_pos (.inl h0)])
    clear HE h0
    go_enter Tryd.func38, Tryd.ntmps38
    go_wp2_with fail
    go_ret3
    exact ⟨by rw [HR2.out]; first | rfl | (simp; done) | (simp; omega), Below.refl _ _⟩
  rw [beq_eq_false_iff_ne.2 h0] at t0
  by_cases h96 : c = 96
  · rw [beq_iff_eq.2 h96] at t96
    have HR2 : Hid (r = (i, 0, false)) := hide (by rw [HE.out, if_pos (.inr h96)])
    clear HE h0 h96
    go_enter Tryd.func38, Tryd.ntmps38
    go_wp2_with fail
    go_ret3
    exact ⟨by rw [HR2.out]; first | rfl | (simp; done) | (simp; omega), Below.refl _ _⟩
  rw [beq_eq_false_iff_ne.2 h96] at t96
  replace HE := hide (HE.out.trans (if_neg (fun h => h.elim h0 h96)))
  by_cases h92 : c = 92
  · rw [beq_iff_eq.2 h92] at t92
    replace HE := hide (HE.out.trans (if_pos h92))
    by_cases hlen : i + 1 < p.length
    · have k1 : (1 : Int) < (R.length : Int) := by have := HRL.out; omega
      have hix1 := HX1.out (by omega)
      have d0 := u8_beq d 0
      change ((d.toNat : Int) == 0) = _ at d0
      by_cases hd : d = 0
      · rw [beq_iff_eq.2 hd] at d0
        have HR2 : Hid (r = (i + 1, 0, false)) := hide (by rw [HE.out, if_pos ⟨hlen, hd⟩])
        clear HE h0 h96 h92 hd hlen
        go_enter Tryd.func38, Tryd.ntmps38
        go_wp2_with fail
        go_ret3
        exact ⟨by rw [HR2.out]; first | rfl | (simp; done) | (simp; omega), Below.refl _ _⟩
      · rw [beq_eq_false_iff_ne.2 hd] at d0
        have HR2 : Hid (r = (i + 2, 0, true)) := hide (by rw [HE.out, if_neg (fun h => hd h.2), Nat.min_eq_left (by omega)])
        have k2 : (i : Int) + 2 ≤ (p.length : Int) := by omega
        clear HE h0 h96 h92 hd hlen
        go_enter Tryd.func38, Tryd.ntmps38
        go_wp2_with fail
        go_ret3
        exact ⟨by rw [HR2.out]; first | rfl | (simp; done) | (simp; omega), Below.refl _ _⟩
    · have k1 : ¬ (1 : Int) < (R.length : Int) := by have := HRL.out; omega
      have HR2 : Hid (r = (p.length, 0, true)) := hide (by rw [HE.out, if_neg (fun h => hlen h.1), Nat.min_eq_right (by omega)])
      have k2 : (p.length : Int) < (i : Int) + 2 := by omega
      clear HE h0 h96 h92 hlen
      go_enter Tryd.func38, Tryd.ntmps38
      go_wp2_with fail
      go_ret3
      exact ⟨by rw [HR2.out]; first | rfl | (simp; done) | (simp; omega), Below.refl _ _⟩
  rw [beq_eq_false_iff_ne.2 h92] at t92
  replace HE := hide (HE.out.trans (if_neg h92))
  by_cases hcq : c = q
  · rw [beq_iff_eq.2 hcq] at tq
    have HR2 : Hid (r = (i + 1, 0, true)) := hide (by rw [HE.out, if_pos hcq])
    clear HE h0 h96 h92 hcq
    go_enter Tryd.func38, Tryd.ntmps38
    go_wp2_with fail
    go_ret3
    exact ⟨by rw [HR2.out]; first | rfl | (simp; done) | (simp; omega), Below.refl _ _⟩
  rw [beq_eq_false_iff_ne.2 hcq] at tq
  replace HE := hide (HE.out.trans (if_neg hcq))
  by_cases h1 : c = 36 ∧ d = 40
  · have B1 : (c == 36 && d == 40) = true := by rw [h1.1, h1.2]; rfl
    have HR2 : Hid (r = (i + 2, 41, true)) := hide (by rw [HE.out, if_pos h1])
    clear HE h0 h96 h92 hcq h1
    go_enter Tryd.func38, Tryd.ntmps38
    go_wp2_with fail
    refine (P1.out _).mono ?_
    rintro e w5 ⟨rfl, rfl⟩
    try rw [B1]
    go_wp2_with fail
    go_ret3
    exact ⟨by rw [HR2.out]; first | rfl | (simp; done) | (simp; omega), Below.refl _ _⟩
  have B1 : (c == 36 && d == 40) = false := by
    rw [Bool.and_eq_false_iff, beq_eq_false_iff_ne, beq_eq_false_iff_ne]
    by_cases a : c = 36
    · exact .inr fun b => h1 ⟨a, b⟩
    · exact .inl a
  replace HE := hide (HE.out.trans (if_neg h1))
  by_cases h2 : c = 36 ∧ d = 123
  · have B2 : (c == 36 && d == 123) = true := by rw [h2.1, h2.2]; rfl
    have HR2 : Hid (r = (i + 2, 125, true)) := hide (by rw [HE.out, if_pos h2])
    clear HE h0 h96 h92 hcq h1 h2
    go_enter Tryd.func38, Tryd.ntmps38
    go_wp2_with fail
    refine (P1.out _).mono ?_
    rintro e w5 ⟨rfl, rfl⟩
    try rw [B1]
    go_wp2_with fail
    refine (P2.out _).mono ?_
    rintro e w6 ⟨rfl, rfl⟩
    try rw [B2]
    go_wp2_with fail
    go_ret3
    exact ⟨by rw [HR2.out]; first | rfl | (simp; done) | (simp; omega), Below.refl _ _⟩
  have B2 : (c == 36 && d == 123) = false := by
    rw [Bool.and_eq_false_iff, beq_eq_false_iff_ne, beq_eq_false_iff_ne]
    by_cases a : c = 36
    · exact .inr fun b => h2 ⟨a, b⟩
    · exact .inl a
  replace HE := hide (HE.out.trans (if_neg h2))
  by_cases hq34 : q = 34
  · rw [beq_iff_eq.2 hq34] at q34
    have HR2 : Hid (r = (i + 1, 0, true)) := hide (by rw [HE.out, if_pos hq34])
    clear HE h0 h96 h92 hcq h1 h2 hq34
    go_enter Tryd.func38, Tryd.ntmps38
    go_wp2_with fail
    refine (P1.out _).mono ?_
    rintro e w5 ⟨rfl, rfl⟩
    try rw [B1]
    go_wp2_with fail
    refine (P2.out _).mono ?_
    rintro e w6 ⟨rfl, rfl⟩
    try rw [B2]
    go_wp2_with fail
    go_ret3
    exact ⟨by rw [HR2.out]; first | rfl | (simp; done) | (simp; omega), Below.refl _ _⟩
  rw [beq_eq_false_iff_ne.2 hq34] at q34
  replace HE := hide (HE.out.trans (if_neg hq34))
  by_cases h34 : c = 34
  · rw [beq_iff_eq.2 h34] at t34
    have HR2 : Hid (r = (i + 1, 34, true)) := hide (by rw [HE.out, if_pos h34])
    clear HE h0 h96 h92 hcq hq34 h1 h2 h34
    go_enter Tryd.func38, Tryd.ntmps38
    go_wp2_with fail
    refine (P1.out _).mono ?_
    rintro e w5 ⟨rfl, rfl⟩
    try rw [B1]
    go_wp2_with fail
    refine (P2.out _).mono ?_
    rintro e w6 ⟨rfl, rfl⟩
    try rw [B2]
    go_wp2_with fail
    go_ret3
    exact ⟨by rw [HR2.out]; first | rfl | (simp; done) | (simp; omega), Below.refl _ _⟩
  rw [beq_eq_false_iff_ne.2 h34] at t34
  replace HE := hide (HE.out.trans (if_neg h34))
  by_cases h40 : c = 40
  · rw [beq_iff_eq.2 h40] at t40
    have HR2 : Hid (r = (i + 1, 41, true)) := hide (by rw [HE.out, if_pos h40])
    clear HE h0 h96 h92 hcq hq34 h34 h1 h2 h40
    go_enter Tryd.func38, Tryd.ntmps38
    go_wp2_with fail
    refine (P1.out _).mono ?_
    rintro e w5 ⟨rfl, rfl⟩
    try rw [B1]
    go_wp2_with fail
    refine (P2.out _).mono ?_
    rintro e w6 ⟨rfl, rfl⟩
    try rw [B2]
    go_wp2_with fail
    go_ret3
    exact ⟨by rw [HR2.out]; first | rfl | (simp; done) | (simp; omega), Below.refl _ _⟩
  rw [beq_eq_false_iff_ne.2 h40] at t40
  replace HE := hide (HE.out.trans (if_neg h40))
  by_cases h39 : c = 39
  · rw [beq_iff_eq.2 h39] at t39
    have HR2 : Hid (r = singleL p (i + 1)) := hide (by rw [HE.out, if_pos h39])
    clear HE h0 h96 h92 hcq hq34 h34 h40 h1 h2 h39
    go_enter Tryd.func38, Tryd.ntmps38
    go_wp2_with fail
    refine (P1.out _).mono ?_
    rintro e w5 ⟨rfl, rfl⟩
    try rw [B1]
    go_wp2_with fail
    refine (P2.out _).mono ?_
    rintro e w6 ⟨rfl, rfl⟩
    try rw [B2]
    go_wp2_with fail
    refine (XS.out _).mono ?_
    rintro e w9 ⟨rfl, hb9⟩
    have HB9 := hide hb9
    clear hb9
    go_wp2_with fail
    go_ret3
    exact ⟨by rw [HR2.out]; rfl, HB9.out⟩
  rw [beq_eq_false_iff_ne.2 h39] at t39
  have HR2 : Hid (r = (i + 1, 0, true)) := hide (by rw [HE.out, if_neg h39])
  clear HE h0 h96 h92 hcq hq34 h34 h40 h1 h2 h39
  go_enter Tryd.func38, Tryd.ntmps38
  go_wp2_with fail
  refine (P1.out _).mono ?_
  rintro e w5 ⟨rfl, rfl⟩
  try rw [B1]
  go_wp2_with fail
  refine (P2.out _).mono ?_
  rintro e w6 ⟨rfl, rfl⟩
  try rw [B2]
  go_wp2_with fail
  go_ret3
  exact ⟨by rw [HR2.out]; first | rfl | (simp; done) | (simp; omega), Below.refl _ _⟩
theorem step_any (p : LB) (i : Nat) (cl : LB) (A : Option Addr) (n cc : Nat) (w : World) (hi : i < p.length) (hl : p.length ≤ 100000) (hcl : cl.length ≤ 100000) (hA : Rd w A n cl) :
    Calls Tryd.prog 38 #[.string ⟨p.toArray⟩, .int .i64 (i : Int), .slice A n cc] w fun e w' => e = .returned (.tuple #[.int .i64 ((stepL p i cl).1 : Int), .int .u8 ((stepL p i cl).2.1.toNat : Int), .bool (stepL p i cl).2.2]) ∧ Below w.heap.size w w' := by
  rcases Nat.eq_zero_or_pos n with h | h
  · exact step_nil p i cl A n cc w hi hl hcl hA h
  · exact step_cons p i cl A n cc w hi hl hcl hA h
end Go.Proofs.YtpfcfcbljkdkhaaDoor
