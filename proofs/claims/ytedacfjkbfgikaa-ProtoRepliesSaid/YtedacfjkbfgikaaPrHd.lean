/- The heads. -/
import Derived.Test.YtedacfjkbfgikaaPrSm
import Derived.Lib.SlBytesConst
namespace Go.Proofs.Ytedacfjkbfgikaa
open Go.RowKit
set_option linter.unusedVariables false
def govP (op : Int) : Bool := op == 1 || op == 6 || op == 7 || op == 9 || op == 10 || op == 11 || op == 12 || op == 13 || op == 14
set_option maxHeartbeats 1000000 in
theorem gov_any (op : Int) (w : World) : Calls Try.prog 17 #[.int .i64 op] w fun e w' => e = .returned (.bool (govP op)) ∧ w = w' := by
  unfold govP
  by_cases h1 : op = 1
  · subst h1
    go_enter Try.func17, Try.ntmps17
    go_wp2_with fail
    go_ret
    exact ⟨rfl, rfl⟩
  · by_cases h6 : op = 6
    · subst h6
      go_enter Try.func17, Try.ntmps17
      go_wp2_with fail
      go_ret
      exact ⟨rfl, rfl⟩
    · by_cases h7 : op = 7
      · subst h7
        go_enter Try.func17, Try.ntmps17
        go_wp2_with fail
        go_ret
        exact ⟨rfl, rfl⟩
      · by_cases h9 : 9 ≤ op ∧ op ≤ 14
        · rcases (show op = 9 ∨ op = 10 ∨ op = 11 ∨ op = 12 ∨ op = 13 ∨ op = 14 by omega) with rfl | rfl | rfl | rfl | rfl | rfl
          all_goals
            go_enter Try.func17, Try.ntmps17
            go_wp2_with fail
            go_ret
            exact ⟨rfl, rfl⟩
        · have e9 : ¬ op = 9 := by omega
          have e10 : ¬ op = 10 := by omega
          have e11 : ¬ op = 11 := by omega
          have e12 : ¬ op = 12 := by omega
          have e13 : ¬ op = 13 := by omega
          have e14 : ¬ op = 14 := by omega
          have f1 : (op == 1) = false := by simpa using h1
          have f6 : (op == 6) = false := by simpa using h6
          have f7 : (op == 7) = false := by simpa using h7
          have f9 : (op == 9) = false := by simpa using e9
          have f10 : (op == 10) = false := by simpa using e10
          have f11 : (op == 11) = false := by simpa using e11
          have f12 : (op == 12) = false := by simpa using e12
          have f13 : (op == 13) = false := by simpa using e13
          have f14 : (op == 14) = false := by simpa using e14
          go_enter Try.func17, Try.ntmps17
          go_wp2_with fail
          go_ret
          exact ⟨by first | rfl | simp [f1, f6, f7, f9, f10, f11, f12, f13, f14] | simp [h1, h6, h7, e9, e10, e11, e12, e13, e14], rfl⟩
/-- Decode of what comes from a decoding. -/
theorem dec_any (bs : LB) (A : Option Addr) (n c : Nat) (w : World) (hr : Rd w A n bs) (hn : n ≤ 100000) (hc : n ≤ c) : Calls Try.prog 11 #[.slice A n c] w fun e w' => DecEnd (decP bs) w e w' := by
  have hl := hr.len
  cases bs with
  | nil =>
    obtain rfl : n = 0 := hl.symm
    exact dec_nil A c w
  | cons b rest =>
    obtain rfl : n = rest.length + 1 := hl.symm
    exact dec_cons b rest A _ c w hr (by omega) hc
theorem dr_any (op : Int) (bs : LB) (A : Option Addr) (n c : Nat) (w : World) (ho : i64ok op) (hr : Rd w A n bs) (hn : n ≤ 100000) (hc : n ≤ c) : Calls Try.prog 22 #[.int .i64 op, .slice A n c] w fun e w' => DecREnd (if (repU op).2 = true then 5 else 2) (decR (repU op) bs) w e w' := by
  cases hq : (repU op).2 with
  | false => exact dr_unk op A n c bs w ho hq
  | true =>
    have hl := hr.len
    cases bs with
    | nil =>
      obtain rfl : n = 0 := hl.symm
      exact dr_nil op A c w ho hq
    | cons b rest =>
      obtain rfl : n = rest.length + 1 := hl.symm
      exact dr_cons op b rest A _ c w ho hq hr (by omega) hc
def q3 : RQ := ⟨2, [], [], 3, 0, 0, [], [], [], []⟩
def q4 : RQ := ⟨2, [], [], 0, 3, 0, [], [], [], []⟩
def p1 : RP := ⟨0, 0, 0, 1, [120], []⟩
theorem q3_ok : q3.ok = true := by kernel_rfl
theorem q4_no : q4.ok = false := by kernel_rfl
theorem q3_enc : encQ q3 = [2, 0, 0, 0, 3] := by kernel_rfl
theorem q3_dec : decP [2, 0, 0, 0, 3] = some q3 := by kernel_rfl
theorem q3_bad : decP [2, 0, 0, 0, 3, 0] = none := by kernel_rfl
theorem p1_ok : ((repU 5).2 && p1.ok (repU 5).1) = true := by kernel_rfl
theorem p1_enc : encP (repU 5).1 p1 = [0, 0, 0, 0, 1, 0, 1, 120] := by kernel_rfl
theorem p1_dec : decR (repU 5) [0, 0, 0, 0, 1, 0, 1, 120] = some p1 := by kernel_rfl
theorem h_enc (w : World) : Calls Try.prog 9 #[.agg #[.int .i64 2, .string ⟨#[]⟩, .string ⟨#[]⟩, .int .i64 3, .int .i64 0, .int .i64 0, .slice none 0 0, .slice none 0 0, .slice none 0 0, .slice none 0 0]] w fun e w' => ∃ A c, e = .returned (.tuple #[.slice A 5 c, .int .i64 0]) ∧ OwB w.heap.size w' A 5 c [2, 0, 0, 0, 3] ∧ Below w.heap.size w w' :=
  (enc_yes q3 none none none none 0 0 0 0 0 0 0 0 w Reads.none_ Reads.none_ Reads.none_ Reads.none_ (by unfold i64ok; show -9223372036854775808 ≤ (2 : Int) ∧ (2 : Int) ≤ 9223372036854775807; omega) (by omega) q3_ok).mono fun e w' ⟨A, n, c, h1, h2, h3⟩ => by
    rw [q3_enc] at h2
    obtain rfl : n = 5 := (by have := h2.rd.len; exact this : 5 = n).symm
    exact ⟨A, c, h1, h2, h3⟩
theorem h_bad (w : World) : Calls Try.prog 9 #[.agg #[.int .i64 2, .string ⟨#[]⟩, .string ⟨#[]⟩, .int .i64 0, .int .i64 3, .int .i64 0, .slice none 0 0, .slice none 0 0, .slice none 0 0, .slice none 0 0]] w fun e w' => e = .returned (.tuple #[.slice none 0 0, .int .i64 2]) ∧ Below w.heap.size w w' :=
  enc_no q4 none none none none 0 0 0 0 0 0 0 0 w Reads.none_ Reads.none_ Reads.none_ Reads.none_ (by unfold i64ok; show -9223372036854775808 ≤ (2 : Int) ∧ (2 : Int) ≤ 9223372036854775807; omega) (by omega) q4_no
theorem h_dec (A : Option Addr) (c : Nat) (w : World) (hr : Rd w A 5 [2, 0, 0, 0, 3]) (hc : 5 ≤ c) : Calls Try.prog 11 #[.slice A 5 c] w fun e w' => ∃ D dn dc B bn bc E en ec F fn fc, e = .returned (.tuple #[.agg #[.int .i64 2, .string ⟨#[]⟩, .string ⟨#[]⟩, .int .i64 3, .int .i64 0, .int .i64 0, .slice D dn dc, .slice B bn bc, .slice E en ec, .slice F fn fc], .int .i64 0]) ∧ RdQ w' q3 D B E F dn dc bn bc en ec fn fc ∧ Below w.heap.size w w' :=
  (dec_any _ A 5 c w hr (by omega) hc).mono fun e w' h => by
    rw [q3_dec] at h
    obtain ⟨D, dn, dc, B, bn, bc, E, en, ec, F, fn, fc, h1, h2, h3, h4, h5, h6⟩ := h
    exact ⟨D, dn, dc, B, bn, bc, E, en, ec, F, fn, fc, h1, ⟨Reads.of_own h2, Reads.of_own h3, Reads.of_own h4, Reads.of_own h5⟩, h6⟩
theorem h_decbad (A : Option Addr) (c : Nat) (w : World) (hr : Rd w A 6 [2, 0, 0, 0, 3, 0]) (hc : 6 ≤ c) : Calls Try.prog 11 #[.slice A 6 c] w fun e w' => ∃ D dn dc B bn bc E en ec F fn fc, e = .returned (.tuple #[.agg #[.int .i64 0, .string ⟨#[]⟩, .string ⟨#[]⟩, .int .i64 0, .int .i64 0, .int .i64 0, .slice D dn dc, .slice B bn bc, .slice E en ec, .slice F fn fc], .int .i64 5]) ∧ Below w.heap.size w w' :=
  (dec_any _ A 6 c w hr (by omega) hc).mono fun e w' h => by
    rw [q3_bad] at h
    obtain ⟨D, dn, dc, B, bn, bc, E, en, ec, F, fn, fc, h1, h2, h3, h4, h5, h6⟩ := h
    exact ⟨D, dn, dc, B, bn, bc, E, en, ec, F, fn, fc, h1, h6⟩
theorem h_encr (A : Option Addr) (c : Nat) (w : World) (hr : Rd w A 1 [120]) : Calls Try.prog 20 #[.int .i64 5, .agg #[.int .i64 0, .int .i64 0, .int .i64 0, .int .i64 1, .slice A 1 c, .slice none 0 0]] w fun e w' => ∃ A c, e = .returned (.tuple #[.slice A 8 c, .int .i64 0]) ∧ OwB w.heap.size w' A 8 c [0, 0, 0, 0, 1, 0, 1, 120] ∧ Below w.heap.size w w' :=
  (er_yes 5 p1 A none 1 c 0 0 w hr Reads.none_ (by unfold i64ok; omega) (by omega) (by have := p1_ok; rw [Bool.and_eq_true] at this; exact this.1) (by have := p1_ok; rw [Bool.and_eq_true] at this; exact this.2)).mono fun e w' ⟨A, n, c, h1, h2, h3⟩ => by
    rw [p1_enc] at h2
    obtain rfl : n = 8 := (by have := h2.rd.len; exact this : 8 = n).symm
    exact ⟨A, c, h1, h2, h3⟩
theorem rep5 : (repU 5).2 = true := by kernel_rfl
theorem h_decr (A : Option Addr) (c : Nat) (w : World) (hr : Rd w A 8 [0, 0, 0, 0, 1, 0, 1, 120]) (hc : 8 ≤ c) : Calls Try.prog 22 #[.int .i64 5, .slice A 8 c] w fun e w' => ∃ D dc B bn bc, e = .returned (.tuple #[.agg #[.int .i64 0, .int .i64 0, .int .i64 0, .int .i64 1, .slice D 1 dc, .slice B bn bc], .int .i64 0]) ∧ Rd w' D 1 [120] ∧ Below w.heap.size w w' :=
  (dr_any 5 _ A 8 c w (by unfold i64ok; omega) hr (by omega) hc).mono fun e w' h => by
    rw [p1_dec] at h
    obtain ⟨D, dn, dc, B, bn, bc, h1, h2, h3, h4⟩ := h
    have h5 : Rd w' D dn [120] := Reads.of_own h2
    obtain rfl : dn = 1 := (by have := h5.len; exact this : 1 = dn).symm
    exact ⟨D, dc, B, bn, bc, h1, h5, h4⟩
theorem h_check (D B E F : Option Addr) (dn dc bn bc en ec fn fc : Nat) (w : World) (h : RdQ w q3 D B E F dn dc bn bc en ec fn fc) : Calls Try.prog 15 #[.agg #[.int .i64 2, .string ⟨#[]⟩, .string ⟨#[]⟩, .int .i64 3, .int .i64 0, .int .i64 0, .slice D dn dc, .slice B bn bc, .slice E en ec, .slice F fn fc]] w fun e w' => e = .returned (.bool true) ∧ Below w.heap.size w w' :=
  (check_any q3 D B E F dn dc bn bc en ec fn fc w h.d h.a h.e h.f (by unfold i64ok; show -9223372036854775808 ≤ (2 : Int) ∧ (2 : Int) ≤ 9223372036854775807; omega) (by
    have h1 := h.d.1
    have h2 := h.a.1
    have h3 := h.e.1
    have h4 := h.f.1
    simp [q3, bv, svs, ivs] at h1 h2 h3 h4
    omega)).mono fun e w' ⟨h1, h2⟩ => ⟨by rw [h1]; exact congrArg (fun b => Ending.returned (.bool b)) q3_ok, h2⟩
theorem lit5 (W : World) : Rd (W.alloc (.cells #[.int .u8 2, .int .u8 0, .int .u8 0, .int .u8 0, .int .u8 3] 5)) (some ⟨W.heap.size, 0, none⟩) 5 [2, 0, 0, 0, 3] :=
  Reads.of_own ((Blk.new W 5 #[.int .u8 2, .int .u8 0, .int .u8 0, .int .u8 0, .int .u8 3]).own (Nat.le_refl _) (cap := 5) (by unfold maxLen; omega) rfl)
theorem gov1 (w : World) : Calls Try.prog 17 #[.int .i64 1] w fun e w' => e = .returned (.bool true) ∧ w = w' := gov_any 1 w
theorem gov5 (w : World) : Calls Try.prog 17 #[.int .i64 5] w fun e w' => e = .returned (.bool false) ∧ w = w' := gov_any 5 w
theorem rdb {w w' : World} {A : Option Addr} {n : Nat} {bs : LB} (h : Rd w A n bs) (hb : Below w.heap.size w w') : Rd w' A n bs := (h.below hb).more hb.size
set_option maxRecDepth 100000 in
set_option maxHeartbeats 8000000 in
theorem heads_any (w : World) : Calls Try.prog 8 #[] w fun e w' => e = .returned (.bool true) ∧ Below w.heap.size w w' := by
  obtain ⟨i0, hi, hz0, hz1, hz2⟩ := info_parts infoU8
  have HB := hide (Below.refl w.heap.size w)
  go_enter Try.func8, Try.ntmps8
  go_wp2_with fail
  with_reducible refine (h_enc _).mono ?_
  rintro e w1 ⟨A1, c1, rfl, hR1, hb⟩
  have HR1 := hide hR1.rd
  have hc1 := hR1.le
  replace HB := hide (below_more HB.out (Nat.le_refl _) hb)
  clear hb hR1
  go_wp2_with fail
  with_reducible refine (h_dec A1 c1 _ HR1.out hc1).mono ?_
  rintro e w2 ⟨D2, dn2, dc2, B2, bn2, bc2, E2, en2, ec2, F2, fn2, fc2, rfl, hR2, hb⟩
  have b2 := (Below.refl w2.heap.size w2).alloc (Nat.le_refl _) (.cells #[.int .i64 2, .string ⟨#[]⟩, .string ⟨#[]⟩, .int .i64 3, .int .i64 0, .int .i64 0, .slice D2 dn2 dc2, .slice B2 bn2 bc2, .slice E2 en2 ec2, .slice F2 fn2 fc2] 26)
  have hb2 := below_more hb (Nat.le_refl _) b2
  have HY := hide (Blk.new w2 26 #[.int .i64 2, .string ⟨#[]⟩, .string ⟨#[]⟩, .int .i64 3, .int .i64 0, .int .i64 0, .slice D2 dn2 dc2, .slice B2 bn2 bc2, .slice E2 en2 ec2, .slice F2 fn2 fc2])
  replace HB := hide (below_more HB.out (Nat.le_refl _) hb2)
  replace HR1 := hide (rdb HR1.out hb2)
  have HR2 := hide (hR2.below b2)
  clear hb hb2 b2 hR2
  generalize hW2 : w2.alloc (.cells #[.int .i64 2, .string ⟨#[]⟩, .string ⟨#[]⟩, .int .i64 3, .int .i64 0, .int .i64 0, .slice D2 dn2 dc2, .slice B2 bn2 bc2, .slice E2 en2 ec2, .slice F2 fn2 fc2] 26) = W2 at HB HR1 HR2 HY
  have hW2s : W2.heap.size = w2.heap.size + 1 := by rw [← hW2]; simp
  have hO0 := (Blk.new W2 5 #[]).own (base := W2.heap.size) (cap := 0) (Nat.le_refl _) (by unfold maxLen; omega) rfl
  have bz := (Below.refl W2.heap.size W2).alloc (Nat.le_refl _) (.cells #[] 5)
  have HR1z := hide (rdb HR1.out bz)
  have hyl := HY.out.lt
  rw [← hW2s] at *
  go_wp2_with (at_builtin; (refine wpList_append_any _ rfl (.tmp 24) (.tmp 25) 22 rfl W2.heap.size 5 i0 _ 1 1 Try.underlying22 hi hz0 hz1 hz2 rfl (by omega) (.slice (some ⟨W2.heap.size, 0, none⟩) 0 0) 0 (bv []) rfl hO0 _ A1 5 c1 (bv [2, 0, 0, 0, 3]) rfl HR1z.out (bv_one _) ?c1 ?c2 ?c3 ?_))
  case c1 => unfold maxLen; omega
  case c2 => omega
  case c3 => simp
  intro v9 w9 hown9 hg9 hat9
  obtain ⟨A9, k9, rfl⟩ := own_slice hown9
  rw [← bv_append, List.nil_append] at hown9
  have b9 : Below W2.heap.size W2 w9 := bz.grown hg9 (by simp) (fun g hg => by simp [Value.ownBlock] at hg; omega)
  have HO9 : Hid (OwB W2.heap.size w9 A9 5 k9 [2, 0, 0, 0, 3]) := hide hown9
  have B9 := hide b9
  have hs9 := b9.size
  have hO9a := World.ownsRow.alloc HO9.out (.cells #[.int .u8 0] 5)
  have hz1r : Rd (w9.alloc (.cells #[.int .u8 0] 5)) (some ⟨w9.heap.size, 0, none⟩) 1 [0] := Reads.of_own ((Blk.new w9 5 #[.int .u8 0]).own (Nat.le_refl _) (cap := 1) (by unfold maxLen; omega) rfl)
  have b9a := (Below.refl w9.heap.size w9).alloc (Nat.le_refl _) (.cells #[.int .u8 0] 5)
  clear hown9 hg9 hat9 hO0 bz HR1z b9 hW2
  go_wp2_with (at_builtin; (refine wpList_append_any _ rfl (.tmp 26) (.tmp 27) 22 rfl W2.heap.size 5 i0 _ 1 1 Try.underlying22 hi hz0 hz1 hz2 rfl (by omega) (.slice A9 5 k9) 5 (bv [2, 0, 0, 0, 3]) rfl hO9a _ (some ⟨w9.heap.size, 0, none⟩) 1 1 (bv [0]) rfl hz1r (bv_one _) ?c4 ?c5 ?c6 ?_))
  case c4 => unfold maxLen; omega
  case c5 => omega
  case c6 => simp; omega
  intro v10 w10 hown10 hg10 hat10
  obtain ⟨A10, k10, rfl⟩ := own_slice hown10
  rw [← bv_append] at hown10
  have b10 : Below W2.heap.size w9 w10 := (b9a.mono hs9).grown hg10 (by simp; omega) (fun g hg => (World.ownsRow.lt HO9.out g hg).1)
  have HO10 : Hid (OwB W2.heap.size w10 A10 6 k10 [2, 0, 0, 0, 3, 0]) := hide hown10
  have bW := B9.out.trans b10
  replace HB := hide (below_more HB.out (Nat.le_refl _) bW)
  replace HR1 := hide (rdb HR1.out bW)
  replace HR2 := hide (HR2.out.below bW)
  replace HY := hide (HY.out.below bW hyl)
  clear hown10 hg10 hat10 hO9a hz1r b9a b10 bW hyl B9 hs9 HO9
  go_wp2_with fail
  refine (h_decbad A10 k10 _ HO10.out.rd HO10.out.le).mono ?_
  rintro e w3 ⟨D3, dn3, dc3, B3, bn3, bc3, E3, en3, ec3, F3, fn3, fc3, rfl, hb⟩
  have b3 := below_more hb (Nat.le_refl _) ((Below.refl w3.heap.size w3).alloc (Nat.le_refl _) (.cells #[.int .i64 0, .string ⟨#[]⟩, .string ⟨#[]⟩, .int .i64 0, .int .i64 0, .int .i64 0, .slice D3 dn3 dc3, .slice B3 bn3 bc3, .slice E3 en3 ec3, .slice F3 fn3 fc3] 26))
  replace HB := hide (below_more HB.out (Nat.le_refl _) b3)
  replace HR1 := hide (rdb HR1.out b3)
  replace HR2 := hide (HR2.out.below b3)
  replace HY := hide (HY.out.below b3 HY.out.lt)
  clear hb b3 HO10
  go_wp2_with fail
  with_reducible refine (h_bad _).mono ?_
  rintro e w4 ⟨rfl, hb⟩
  have b4a := (Below.refl w4.heap.size w4).alloc (Nat.le_refl _) (.cells #[.int .u8 120] 5 (1, 2))
  have b4 := below_more hb (Nat.le_refl _) b4a
  have hx1 : Rd (w4.alloc (.cells #[.int .u8 120] 5 (1, 2))) (some ⟨w4.heap.size, 0, none⟩) 1 [120] := by
    refine ⟨rfl, fun _ => ⟨_, rfl, by simp, ?_⟩⟩
    intro j u hu
    rw [at_add, Nat.zero_add, World.cell?_alloc_mark w4 #[.int .u8 120] 5 (1, 2) j]
    simpa [bv] using hu
  have kc := Lib.run_convert_bytes_const (P := Try.prog) w4 22 5 #[.int .u8 120] 1 1 Try.underlying22 Try.underlying5
  replace HB := hide (below_more HB.out (Nat.le_refl _) b4)
  replace HR1 := hide (rdb HR1.out b4)
  replace HR2 := hide (HR2.out.below b4)
  replace HY := hide (HY.out.below b4 HY.out.lt)
  clear hb b4 b4a
  go_wp2_with fail
  with_reducible refine (h_encr _ 1 _ hx1).mono ?_
  rintro e w5 ⟨A5, c5, rfl, hR5, hb⟩
  have HR5 := hide hR5
  replace HB := hide (below_more HB.out (Nat.le_refl _) hb)
  replace HR1 := hide (rdb HR1.out hb)
  replace HR2 := hide (HR2.out.below hb)
  replace HY := hide (HY.out.below hb HY.out.lt)
  clear hb hR5 hx1 kc
  go_wp2_with fail
  with_reducible refine (h_decr A5 c5 _ HR5.out.rd HR5.out.le).mono ?_
  rintro e w6 ⟨D6, dc6, B6, bn6, bc6, rfl, hR6, hb⟩
  have b6a := (Below.refl w6.heap.size w6).alloc (Nat.le_refl _) (.cells #[.int .i64 0, .int .i64 0, .int .i64 0, .int .i64 1, .slice D6 1 dc6, .slice B6 bn6 bc6] 43)
  have HZ := hide (Blk.new w6 43 #[.int .i64 0, .int .i64 0, .int .i64 0, .int .i64 1, .slice D6 1 dc6, .slice B6 bn6 bc6])
  have b6 := below_more hb (Nat.le_refl _) b6a
  have hR6a := rdb hR6 b6a
  replace HB := hide (below_more HB.out (Nat.le_refl _) b6)
  replace HR1 := hide (rdb HR1.out b6)
  replace HR2 := hide (HR2.out.below b6)
  replace HY := hide (HY.out.below b6 HY.out.lt)
  have b7 := (Below.refl (w6.alloc (.cells #[.int .i64 0, .int .i64 0, .int .i64 0, .int .i64 1, .slice D6 1 dc6, .slice B6 bn6 bc6] 43)).heap.size (w6.alloc (.cells #[.int .i64 0, .int .i64 0, .int .i64 0, .int .i64 1, .slice D6 1 dc6, .slice B6 bn6 bc6] 43))).alloc (Nat.le_refl _) (.cells #[.int .u8 2, .int .u8 0, .int .u8 0, .int .u8 0, .int .u8 3] 5)
  replace HB := hide (below_more HB.out (Nat.le_refl _) b7)
  replace HR1 := hide (rdb HR1.out b7)
  replace HR2 := hide (HR2.out.below b7)
  replace HY := hide (HY.out.below b7 HY.out.lt)
  have hxl := HZ.out.lt
  replace HZ := hide (HZ.out.below b7 HZ.out.lt)
  have HR6 := hide (rdb hR6a b7)
  have HL := hide (lit5 (w6.alloc (.cells #[.int .i64 0, .int .i64 0, .int .i64 0, .int .i64 1, .slice D6 1 dc6, .slice B6 bn6 bc6] 43)))
  rw [show (w6.alloc (.cells #[.int .i64 0, .int .i64 0, .int .i64 0, .int .i64 1, .slice D6 1 dc6, .slice B6 bn6 bc6] 43)).heap.size = w6.heap.size + 1 by simp] at HL
  have HEE : Hid ((([2, 0, 0, 0, 3] : LB) == [2, 0, 0, 0, 3]) = true) := hide (by kernel_rfl)
  clear hb hR6 b6a b6 hR6a b7 HR5
  go_wp2_with fail
  have XS := hide (same_any A1 _ 5 5 c1 5 [2, 0, 0, 0, 3] [2, 0, 0, 0, 3] _ _ _ HR1.out HL.out)
  rw [HEE.out] at XS
  with_reducible refine XS.out.mono ?_
  rintro e w8 ⟨rfl, rfl⟩
  clear XS
  generalize hW8 : (w6.alloc (.cells #[.int .i64 0, .int .i64 0, .int .i64 0, .int .i64 1, .slice D6 1 dc6, .slice B6 bn6 bc6] 43)).alloc (.cells #[.int .u8 2, .int .u8 0, .int .u8 0, .int .u8 0, .int .u8 3] 5) = W8 at *
  obtain ⟨y0, y1, y2, y3, y4, y5, y6, y7, y8, y9⟩ := blk10 HY.out
  obtain ⟨z0, z1, z2, z3, z4, z5⟩ := blk6 HZ.out
  have hst := run_string_of (P := Try.prog) W8 W8.heap.size 22 9 5 D6 1 dc6 [120] Try.underlying22 Try.underlying5 Try.underlying9 HR6.out
  have XC := hide (h_check D2 B2 E2 F2 dn2 dc2 bn2 bc2 en2 ec2 fn2 fc2 W8 HR2.out)
  go_wp2_with fail
  with_reducible refine XC.out.mono ?_
  rintro e w11 ⟨rfl, hb⟩
  replace HB := hide (below_more HB.out (Nat.le_refl _) hb)
  clear hb XC hst y0 y1 y2 y3 y4 y5 y6 y7 y8 y9 z0 z1 z2 z3 z4 z5
  go_wp2_with fail
  with_reducible refine (gov1 _).mono ?_
  rintro e w12 ⟨rfl, rfl⟩
  go_wp2_with fail
  with_reducible refine (gov5 _).mono ?_
  rintro e w12 ⟨rfl, rfl⟩
  go_wp2_with fail
  go_ret
  exact ⟨rfl, HB.out⟩
end Go.Proofs.Ytedacfjkbfgikaa
