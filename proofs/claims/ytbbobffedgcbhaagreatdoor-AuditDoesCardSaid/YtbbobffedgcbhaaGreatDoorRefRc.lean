/- The contracts of the document's text and Encode. -/
import Derived.Test.YtbbobffedgcbhaaGreatDoorRec8b
import Derived.Test.YtbbobffedgcbhaaGreatDoorGr
import Derived.BigQuiet
import Derived.Deep.QuietTactic
namespace Go.Proofs.YtbbobffedgcbhaaGreatDoor
open Go.RowKit
set_option linter.unusedVariables false
theorem rput_ow (n m : Nat) (w : World) (h1 : 1 ≤ m) (h2 : m ≤ 8) (hn : n < 18446744073709551616) : Calls Tryz.prog 55 #[.int .u64 n, .int .i64 m] w fun e w' => ∃ A c, e = .returned (.slice A m c) ∧ OwB w.heap.size w' A m c (be m n) ∧ Below w.heap.size w w' :=
  (rput_yes n m w h1 h2 hn).mono fun e w' ⟨v, h1, h2, h3⟩ => by
    obtain ⟨A, c, rfl⟩ := own_slice h2
    exact ⟨A, c, h1, h2, h3⟩
theorem rput2 (n : Nat) (w : World) (hn : n < 18446744073709551616) : Calls Tryz.prog 55 #[.int .u64 (n : Int), .int .i64 2] w fun e w' => ∃ A c, e = .returned (.slice A 2 c) ∧ OwB w.heap.size w' A 2 c (be 2 n) ∧ Below w.heap.size w w' := rput_ow n 2 w (by omega) (by omega) hn
theorem txt_len (s : LB) : (txtP s).length = 2 + s.length := by unfold txtP; rw [List.length_append, be_length]
set_option maxRecDepth 100000 in
set_option maxHeartbeats 4000000 in
theorem rtext_any (s : LB) (hs : s.length ≤ 256) (w : World) :
    Calls Tryz.prog 74 #[.string ⟨s.toArray⟩] w fun e w' => ∃ A c, e = .returned (.slice A (2 + s.length) c) ∧ OwB w.heap.size w' A (2 + s.length) c (txtP s) ∧ Below w.heap.size w w' := by
  obtain ⟨i0, hi, hz0, hz1, hz2⟩ := info_parts infoU8
  have HP := hide (rput2 s.length w (by omega))
  have wl : IntKind.u64.wrap (s.length : Int) = (s.length : Int) := by simp [IntKind.wrap, IntKind.bits, IntKind.signed]; omega
  have HT : Hid (be 2 s.length ++ s = txtP s) := hide rfl
  go_enter Tryz.func74, Tryz.ntmps74
  go_wp2_with fail
  with_reducible refine HP.out.mono ?_
  rintro e w7 ⟨A7, c7, rfl, hO, hb⟩
  have HO := hide hO
  have HB := hide hb
  have hs7 := hb.size
  clear hO hb HP
  go_wp2_with (at_builtin; (refine Lib.wpList_append_own_string _ rfl (.tmp 6) (.tmp 7) 22 9 rfl w.heap.size 5 i0 Tryz.underlying22 Tryz.underlying9 hi hz0 hz1 hz2 (.slice A7 2 c7) 2 (bv (be 2 s.length)) rfl (by exact HO.out) ⟨s.toArray⟩ rfl ?d1 ?d2 ?d3 ?_))
  case d1 => show 2 + s.length ≤ _; unfold maxLen; omega
  case d2 => show 2 + s.length ≤ _; omega
  case d3 => exact hs7
  intro v9 w9 hown9 hg9 hat9
  obtain ⟨A9, c9, rfl⟩ := own_slice hown9
  rw [strc, ← bv_append, HT.out] at hown9
  have HO9 : Hid (OwB w.heap.size w9 A9 (2 + s.length) c9 (txtP s)) := hide hown9
  have HB9 : Hid (Below w.heap.size w w9) := hide (HB.out.grown hg9 hs7 (fun g hg => (World.ownsRow.lt HO.out g hg).1))
  clear hown9 hg9 hat9 HO HB hs7
  go_wp2_with fail
  go_ret
  first | exact ⟨A9, c9, rfl, HO9.out, HB9.out⟩ | exact ⟨⟨A9, c9, rfl, HO9.out⟩, HB9.out⟩
set_option maxRecDepth 100000 in
set_option maxHeartbeats 4000000 in
theorem renc_bad (r : Rec) (A : Option Addr) (n c : Nat) (hd : r.dig.length = n) (w : World) (hV : validP r = false) :
    Calls Tryz.prog 53 #[Rec.v r A n c] w fun e w' => e = .returned (.tuple #[.slice none 0 0, .int .i64 2]) ∧ Below w.heap.size w w' := by
  have XC := hide (fun W => rcheck_any r A n c hd W)
  rw [hV] at XC
  clear hV hd
  obtain ⟨q, op, p, p2, d, al⟩ := r
  have HB := hide ((Below.refl w.heap.size w).alloc (Nat.le_refl _) (.cells (Rec.cs ⟨q, op, p, p2, d, al⟩ A n c) 28))
  unfold Rec.v Rec.cs at *
  dsimp only at *
  go_enter Tryz.func53, Tryz.ntmps53
  go_wp2_with fail
  refine (XC.out _).mono ?_
  rintro e w1 ⟨rfl, hb⟩
  have HB1 := hide (below_more HB.out (Nat.le_refl _) hb)
  clear hb XC
  go_wp2_with fail
  refine bodyPost_ret (v := .tuple #[.slice none 0 0, .int .i64 2]) (by simp only [results, Tryz.results53]; go_simp) rfl ⟨rfl, HB1.out⟩
theorem two_zero (W : World) (x : Nat) (hx : x < 256) : Rd (W.alloc (.cells #[.int .u8 (x : Int), .int .u8 0] 5)) (some ⟨W.heap.size, 0, none⟩) 2 [UInt8.ofNat x, 0] := two_bytes W x 0 hx (by omega)
theorem OwB.addr {B : Nat} {w : World} {A : Option Addr} {n c : Nat} {bs : LB} (h : OwB B w A n c bs) (h0 : 0 < n) : ∃ g cur, A = some ⟨g, 0, none⟩ ∧ Blk w g 5 cur ∧ B ≤ g ∧ n ≤ c ∧ ∀ j, j < n → cur[j]? = (bv bs)[j]? := by
  rcases h.2 with ⟨hv, h1⟩ | ⟨g, cap, cur, hv, hb, hh, hnc, hmx, hsz, htk⟩
  · omega
  · injection hv with e1 e2 e3
    subst e1; subst e3
    refine ⟨g, cur, rfl, hh, hb, hnc, fun j hj => ?_⟩
    rw [← htk, Nat.mul_one, List.getElem?_take, if_pos hj]
    simp
theorem OwB.set_ {B : Nat} {w : World} {g n c : Nat} {bs : LB} (h : OwB B w (some ⟨g, 0, none⟩) n c bs) (j : Nat) (x : UInt8) : OwB B (w.setCell ⟨g, j, none⟩ (.int .u8 (x.toNat : Int))) (some ⟨g, 0, none⟩) n c (bs.set j x) := by
  have := (World.ownsRow.stored h j (.int .u8 (x.toNat : Int))).1
  unfold OwB
  have e : bv (bs.set j x) = (bv bs).set j (.int .u8 (x.toNat : Int)) := by simp [bv, List.map_set]
  rw [e]; exact this
set_option maxRecDepth 100000 in
set_option maxHeartbeats 16000000 in
theorem renc_yes (m x : Nat) (p p2 d : LB) (al : Bool) (A : Option Addr) (n c : Nat) (hd : d.length = n) (w : World) (hR : Rd w A n d) (hm : m ≤ 2147483647) (hx : x ≤ 14) (hp : p.length ≤ 256) (hp2 : p2.length ≤ 256) (hn : n ≤ 32) (hV : validP ⟨(m : Int), (x : Int), p, p2, d, al⟩ = true) :
    Calls Tryz.prog 53 #[Rec.v ⟨(m : Int), (x : Int), p, p2, d, al⟩ A n c] w fun e w' => ∃ A' n' c', e = .returned (.tuple #[.slice A' n' c', .int .i64 0]) ∧ Rd w' A' n' (encP ⟨(m : Int), (x : Int), p, p2, d, al⟩) ∧ n' ≤ c' ∧ n' ≤ 1000 ∧ Below w.heap.size w w' := by
  obtain ⟨i0, hi, hz0, hz1, hz2⟩ := info_parts infoU8
  have hb := (Below.refl w.heap.size w).alloc (Nat.le_refl _) (.cells #[.int .i64 (m : Int), .int .i64 (x : Int), .string ⟨p.toArray⟩, .string ⟨p2.toArray⟩, .slice A n c, .bool al] 28)
  have HB := hide hb
  have HR0 := hide hR
  have HX := hide (Blk.new w 28 #[.int .i64 (m : Int), .int .i64 (x : Int), .string ⟨p.toArray⟩, .string ⟨p2.toArray⟩, .slice A n c, .bool al])
  have XC := hide (fun W => rcheck_any ⟨(m : Int), (x : Int), p, p2, d, al⟩ A n c hd W)
  rw [hV] at XC
  have HE := hide (enc_shape ⟨(m : Int), (x : Int), p, p2, d, al⟩)
  dsimp only at HE
  rw [Int.toNat_natCast, Int.toNat_natCast] at HE
  have XT := hide (fun W => rtext_any p hp W)
  have XT2 := hide (fun W => rtext_any p2 hp2 W)
  clear hb hV hR
  obtain ⟨R, hRe⟩ : ∃ R, encP ⟨(m : Int), (x : Int), p, p2, d, al⟩ = R := ⟨_, rfl⟩
  rw [hRe] at HE ⊢
  clear hRe
  have wm : IntKind.u64.wrap (m : Int) = (m : Int) := by simp [IntKind.wrap, IntKind.bits, IntKind.signed]; omega
  have wx_ : IntKind.u8.wrap (x : Int) = (x : Int) := by simp [IntKind.wrap, IntKind.bits, IntKind.signed]; omega
  unfold Rec.v at *
  dsimp only at *
  go_enter Tryz.func53, Tryz.ntmps53
  go_wp2_with fail
  refine (XC.out _).mono ?_
  rintro e w2 ⟨rfl, hb⟩
  replace HX := hide (HX.out.below hb HX.out.lt)
  replace HB := hide (below_more HB.out (Nat.le_refl _) hb)
  clear hb XC
  obtain ⟨f0, f1, f2, f3, f4, f5⟩ := HX.out.six
  have hx2 := HX.out.lt
  go_upto_region 3 with (fail)
  go_cut [4] (fun u4 wx => ∃ A5 c5, u4 = .slice A5 6 c5 ∧ Hid (OwB w.heap.size wx A5 6 c5 (be 4 m ++ [UInt8.ofNat x, 0])) ∧ Hid (Below w.heap.size w wx) ∧ Hid (Blk wx w.heap.size 28 #[.int .i64 (m : Int), .int .i64 (x : Int), .string ⟨p.toArray⟩, .string ⟨p2.toArray⟩, .slice A n c, .bool al]))
  case first =>
    refine wp_region_M (fun V => V.cell? ⟨w.heap.size, 0, none⟩ = some (.int .i64 (m : Int)) ∧ V.cell? ⟨w.heap.size, 1, none⟩ = some (.int .i64 (x : Int))) 9 rfl ⟨f0, f1⟩ (fun hHeld => ?_)
    refine wpAnyM_take (i := 0) (v := ?_) rfl rfl (by kernel_rfl) (fun _ _ _ h => h) (Or.inl ⟨by rfl, ?_⟩) (by assumption) ?_
    rotate_left
    · (intro V hV; (try dsimp only at hV); go_simp; with_reducible rfl)
    try simp only [Act.put, List.setIfInBounds_toArray, List.set_cons_zero, List.set_cons_succ]
    refine wpAnyM_take (i := 1) (v := ?_) rfl rfl (by kernel_rfl) (fun _ _ _ h => h) (Or.inl ⟨by rfl, ?_⟩) (by assumption) ?_
    rotate_left
    · (intro V hV; (try dsimp only at hV); go_simp; with_reducible rfl)
    try simp only [Act.put, List.setIfInBounds_toArray, List.set_cons_zero, List.set_cons_succ]
    refine wpAnyM_take (i := 2) (v := ?_) rfl rfl (by kernel_rfl) (fun _ _ _ h => h) (Or.inl ⟨by rfl, ?_⟩) (by assumption) ?_
    rotate_left
    · (intro V hV; (try dsimp only at hV); go_simp; with_reducible rfl)
    try simp only [Act.put, List.setIfInBounds_toArray, List.set_cons_zero, List.set_cons_succ]
    refine wpAnyM_take (i := 4) (v := ?_) rfl rfl (by kernel_rfl) (fun _ _ _ h => h) (Or.inl ⟨by rfl, ?_⟩) (by assumption) ?_
    rotate_left
    · (intro V hV; (try dsimp only at hV); go_simp; with_reducible rfl)
    try simp only [Act.put, List.setIfInBounds_toArray, List.set_cons_zero, List.set_cons_succ]
    refine wpAnyM_take (i := 5) (v := ?_) rfl rfl (by kernel_rfl) (fun _ _ _ h => h) (Or.inl ⟨by rfl, ?_⟩) (by assumption) ?_
    rotate_left
    · (intro V hV; (try dsimp only at hV); go_simp; with_reducible rfl)
    try simp only [Act.put, List.setIfInBounds_toArray, List.set_cons_zero, List.set_cons_succ]
    refine wpAnyM_take (i := 6) (v := ?_) rfl rfl (by kernel_rfl) (fun _ _ _ h => h) (Or.inl ⟨by rfl, ?_⟩) (by assumption) ?_
    rotate_left
    · (intro V hV; (try dsimp only at hV); go_simp; with_reducible rfl)
    try simp only [Act.put, List.setIfInBounds_toArray, List.set_cons_zero, List.set_cons_succ]
    refine wpAnyM_two (i := 3) (j := 7) (by kernel_rfl) rfl rfl rfl rfl (fun K hK => ?_) (fun K hK => ?_)
    · go_simp
      refine (rput_ow m 4 _ (by omega) (by omega) (by omega)).mono ?_
      rintro e w3 ⟨A3, c3, rfl, hO, hb⟩
      have HO3 : Hid (OwB w.heap.size w3 A3 4 c3 (be 4 m)) := hide (own_more hO HB.out.size)
      have HB3 : Hid (Below w.heap.size w w3) := hide (below_more HB.out.drew (Nat.le_refl _) hb)
      have HX3 : Hid (Blk w3 w.heap.size 28 #[.int .i64 (m : Int), .int .i64 (x : Int), .string ⟨p.toArray⟩, .string ⟨p2.toArray⟩, .slice A n c, .bool al]) := hide (HX.out.drew.below hb HX.out.lt)
      obtain ⟨d0, d1, _⟩ := HX3.out.six
      refine hK.out _ _ (fun _ => ⟨d0, d1⟩) ?_
      clear hK K hHeld hO hb
      simp only [List.setIfInBounds_toArray]
      refine wpAnyM_step (i := 7) (by kernel_rfl) rfl rfl (fun K hK => ?_)
      go_simp
      have HX4 := hide (HX3.out.alloc (.cells #[.int .u8 (x : Int), .int .u8 0] 5))
      have HB4 := hide (HB3.out.alloc HB3.out.size (.cells #[.int .u8 (x : Int), .int .u8 0] 5))
      have HO4 : Hid (OwB w.heap.size (w3.alloc (.cells #[.int .u8 (x : Int), .int .u8 0] 5)) A3 4 c3 (be 4 m)) := hide (World.ownsRow.alloc HO3.out _)
      have HR4 := hide (two_zero w3 x (by omega))
      obtain ⟨e0, e1, _⟩ := HX4.out.six
      refine hK.out _ _ (fun _ => ⟨e0, e1⟩) ?_
      clear hK K HX3 HB3 HO3 d0 d1 e0 e1
      simp only [List.setIfInBounds_toArray]
      refine wpAnyM_step (i := 8) (by kernel_rfl) rfl rfl (fun K hK => ?_)
      refine step_append_any _ rfl (.tmp 11) (.tmp 15) 22 rfl w.heap.size 5 i0 _ 1 1 Tryz.underlying22 hi hz0 hz1 hz2 rfl (by omega) (.slice A3 4 c3) 4 (bv (be 4 m)) rfl (by exact HO4.out) _ (some ⟨w3.heap.size, 0, none⟩) 2 2 (bv [UInt8.ofNat x, 0]) rfl (by exact HR4.out) (bv_one _) (by unfold maxLen; omega) (by omega) (by exact HB4.out.size) ?_
      intro v5 w5 hown5 hg5 hat5
      obtain ⟨A5, c5, rfl⟩ := own_slice hown5
      rw [← bv_append] at hown5
      have HO5 : Hid (OwB w.heap.size w5 A5 6 c5 (be 4 m ++ [UInt8.ofNat x, 0])) := hide hown5
      have HB5 : Hid (Below w.heap.size w w5) := hide (HB4.out.grown hg5 HB4.out.size (fun g hg => (World.ownsRow.lt HO4.out g hg).1))
      have HX5 : Hid (Blk w5 w.heap.size 28 #[.int .i64 (m : Int), .int .i64 (x : Int), .string ⟨p.toArray⟩, .string ⟨p2.toArray⟩, .slice A n c, .bool al]) := hide (HX4.out.grown hg5 (own_blk_ne HO4.out HX4.out (by decide)).symm)
      obtain ⟨d0, d1, _⟩ := HX5.out.six
      refine hK.out _ _ (fun _ => ⟨d0, d1⟩) ?_
      clear hK K hown5 hg5 hat5 d0 d1
      simp only [List.setIfInBounds_toArray]
      refine wpAnyM_step (i := 9) (by kernel_rfl) rfl rfl (fun K hK => ?_)
      go_simp
      refine hK.out _ _ (fun h => absurd rfl h) ?_
      refine wpAnyM_done (by kernel_rfl) ?_ _
      clear hK K HX4 HO4 HR4 HB4
      go_wp2_with fail
      go_meet
      exact ⟨A5, c5, rfl, HO5, HB5, HX5⟩
    · go_simp
      have HXa : Hid (Blk (w2.drew.alloc (.cells #[.int .u8 (x : Int), .int .u8 0] 5)) w.heap.size 28 #[.int .i64 (m : Int), .int .i64 (x : Int), .string ⟨p.toArray⟩, .string ⟨p2.toArray⟩, .slice A n c, .bool al]) := hide (HX.out.drew.alloc _)
      have HBa : Hid (Below w.heap.size w (w2.drew.alloc (.cells #[.int .u8 (x : Int), .int .u8 0] 5))) := hide (HB.out.drew.alloc HB.out.size _)
      have HRa := hide (two_zero w2.drew x (by omega))
      obtain ⟨d0, d1, _⟩ := HXa.out.six
      refine hK.out _ _ (fun _ => ⟨d0, d1⟩) ?_
      clear hK K hHeld
      simp only [List.setIfInBounds_toArray]
      refine wpAnyM_step (i := 3) (by kernel_rfl) rfl rfl (fun K hK => ?_)
      go_simp
      refine (rput_ow m 4 _ (by omega) (by omega) (by omega)).mono ?_
      rintro e w3 ⟨A3, c3, rfl, hO, hb⟩
      have HO4 : Hid (OwB w.heap.size w3 A3 4 c3 (be 4 m)) := hide (own_more hO HBa.out.size)
      have HB4 : Hid (Below w.heap.size w w3) := hide (below_more HBa.out (Nat.le_refl _) hb)
      have HX4 : Hid (Blk w3 w.heap.size 28 #[.int .i64 (m : Int), .int .i64 (x : Int), .string ⟨p.toArray⟩, .string ⟨p2.toArray⟩, .slice A n c, .bool al]) := hide (HXa.out.below hb HXa.out.lt)
      have HR4 := hide (rb HRa.out hb)
      obtain ⟨e0, e1, _⟩ := HX4.out.six
      refine hK.out _ _ (fun _ => ⟨e0, e1⟩) ?_
      clear hK K hO hb HXa HBa HRa d0 d1 e0 e1
      simp only [List.setIfInBounds_toArray]
      refine wpAnyM_step (i := 8) (by kernel_rfl) rfl rfl (fun K hK => ?_)
      refine step_append_any _ rfl (.tmp 11) (.tmp 15) 22 rfl w.heap.size 5 i0 _ 1 1 Tryz.underlying22 hi hz0 hz1 hz2 rfl (by omega) (.slice A3 4 c3) 4 (bv (be 4 m)) rfl (by exact HO4.out) _ (some ⟨w2.drew.heap.size, 0, none⟩) 2 2 (bv [UInt8.ofNat x, 0]) rfl (by exact HR4.out) (bv_one _) (by unfold maxLen; omega) (by omega) (by exact HB4.out.size) ?_
      intro v5 w5 hown5 hg5 hat5
      obtain ⟨A5, c5, rfl⟩ := own_slice hown5
      rw [← bv_append] at hown5
      have HO5 : Hid (OwB w.heap.size w5 A5 6 c5 (be 4 m ++ [UInt8.ofNat x, 0])) := hide hown5
      have HB5 : Hid (Below w.heap.size w w5) := hide (HB4.out.grown hg5 HB4.out.size (fun g hg => (World.ownsRow.lt HO4.out g hg).1))
      have HX5 : Hid (Blk w5 w.heap.size 28 #[.int .i64 (m : Int), .int .i64 (x : Int), .string ⟨p.toArray⟩, .string ⟨p2.toArray⟩, .slice A n c, .bool al]) := hide (HX4.out.grown hg5 (own_blk_ne HO4.out HX4.out (by decide)).symm)
      obtain ⟨d0, d1, _⟩ := HX5.out.six
      refine hK.out _ _ (fun _ => ⟨d0, d1⟩) ?_
      clear hK K hown5 hg5 hat5 d0 d1
      simp only [List.setIfInBounds_toArray]
      refine wpAnyM_step (i := 9) (by kernel_rfl) rfl rfl (fun K hK => ?_)
      go_simp
      refine hK.out _ _ (fun h => absurd rfl h) ?_
      refine wpAnyM_done (by kernel_rfl) ?_ _
      clear hK K HX4 HO4 HR4 HB4
      go_wp2_with fail
      go_meet
      exact ⟨A5, c5, rfl, HO5, HB5, HX5⟩
  case rest =>
    obtain ⟨A5, c5, rfl, HO5, HB5, HX5⟩ := hcut
    obtain ⟨g, cur, rfl, hcur, hgB, hc6, hcc⟩ := HO5.out.addr (by omega)
    clear HB HX f0 f1 f2 f3 f4 f5 hx2
    obtain ⟨f0, f1, f2, f3, f4, f5⟩ := HX5.out.six
    have hx2 := HX5.out.lt
    have HCU := hide hcur
    clear hcur f0 f1 f2 f3 f4
    obtain ⟨B0, hB0⟩ : ∃ b, be 4 m ++ [UInt8.ofNat x, if al then 1 else 0] = b := ⟨_, rfl⟩
    have HEB : Hid (R = B0 ++ txtP p ++ txtP p2 ++ d) := hide (by rw [HE.out, ← hB0]; simp)
    go_upto_if 18 with (fail)
    go_cut [] (fun wx => Hid (OwB w.heap.size wx (some ⟨g, 0, none⟩) 6 c5 B0) ∧ Hid (Below w.heap.size w wx) ∧ Hid (Blk wx w.heap.size 28 #[.int .i64 (m : Int), .int .i64 (x : Int), .string ⟨p.toArray⟩, .string ⟨p2.toArray⟩, .slice A n c, .bool al]))
    case first =>
      cases al with
      | true =>
        have hset : (be 4 m ++ [UInt8.ofNat x, (0 : UInt8)]).set 5 1 = B0 := by
          rw [← hB0, List.set_append_right _ _ (by rw [be_length]; omega), be_length]; rfl
        have HO6 : Hid (OwB w.heap.size (wc.setCell ⟨g, 5, none⟩ (.int .u8 1)) (some ⟨g, 0, none⟩) 6 c5 B0) := hide (by rw [← hset]; exact HO5.out.set_ 5 1)
        obtain ⟨i5, hz5⟩ : ∃ z, cur[5]? = some (.int .u8 z) := ⟨0, by rw [hcc 5 (by omega)]; simp [bv, be_length]⟩
        have cg5 : wc.cell? ⟨g, 5, none⟩ = some (.int .u8 i5) := (HCU.out.cell 5).trans hz5
        have fg5 := HCU.out.frozen 5
        have hia := fun W => u8_at g 0 6 c5 5 5 rfl (by omega) W
        simp only [Nat.zero_add] at hia
        have HB6 : Hid (Below w.heap.size w (wc.setCell ⟨g, 5, none⟩ (.int .u8 1))) := hide (HB5.out.setCell (p := ⟨g, 5, none⟩) hgB _)
        have HX6 : Hid (Blk (wc.setCell ⟨g, 5, none⟩ (.int .u8 1)) w.heap.size 28 #[.int .i64 (m : Int), .int .i64 (x : Int), .string ⟨p.toArray⟩, .string ⟨p2.toArray⟩, .slice A n c, .bool true]) := hide (HX5.out.far (p := ⟨g, 5, none⟩) (Blk.ne_ HX5.out HCU.out (by decide)) _)
        clear hz5 hcc
        go_wp2_with fail
        go_meet
        exact ⟨HO6, HB6, HX6⟩
      | false =>
        have hset : be 4 m ++ [UInt8.ofNat x, (0 : UInt8)] = B0 := by rw [← hB0]; rfl
        rw [hset] at HO5
        go_wp2_with fail
        go_meet
        exact ⟨HO5, HB5, HX5⟩
    case rest =>
      obtain ⟨HO6, HB6, HX6⟩ := hcut
      clear HO5 HB5 HX5 HCU f5 hx2 hB0 HE
      obtain ⟨f0, f1, f2, f3, f4, f5⟩ := HX6.out.six
      have hx6 := HX6.out.lt
      go_upto_region 6 with (fail)
      go_cut [4] (fun u4 wx => ∃ A9 c9, u4 = .slice A9 (6 + (2 + p.length) + (2 + p2.length)) c9 ∧ Hid (OwB w.heap.size wx A9 (6 + (2 + p.length) + (2 + p2.length)) c9 (B0 ++ txtP p ++ txtP p2)) ∧ Hid (Below w.heap.size w wx) ∧ Hid (Blk wx w.heap.size 28 #[.int .i64 (m : Int), .int .i64 (x : Int), .string ⟨p.toArray⟩, .string ⟨p2.toArray⟩, .slice A n c, .bool al]))
      case first =>
        refine wp_region_M (fun V => V.cell? ⟨w.heap.size, 2, none⟩ = some (.string ⟨p.toArray⟩) ∧ V.cell? ⟨w.heap.size, 3, none⟩ = some (.string ⟨p2.toArray⟩)) 9 rfl ⟨f2, f3⟩ (fun hHeld => ?_)
        refine wpAnyM_take (i := 0) (v := ?_) rfl rfl (by kernel_rfl) (fun _ _ _ h => h) (Or.inl ⟨by rfl, ?_⟩) (by assumption) ?_
        rotate_left
        · (intro V hV; (try dsimp only at hV); go_simp; with_reducible rfl)
        try simp only [Act.put, List.setIfInBounds_toArray, List.set_cons_zero, List.set_cons_succ]
        refine wpAnyM_take (i := 1) (v := ?_) rfl rfl (by kernel_rfl) (fun _ _ _ h => h) (Or.inl ⟨by rfl, ?_⟩) (by assumption) ?_
        rotate_left
        · (intro V hV; (try dsimp only at hV); go_simp; with_reducible rfl)
        try simp only [Act.put, List.setIfInBounds_toArray, List.set_cons_zero, List.set_cons_succ]
        refine wpAnyM_take (i := 2) (v := ?_) rfl rfl (by kernel_rfl) (fun _ _ _ h => h) (Or.inl ⟨by rfl, ?_⟩) (by assumption) ?_
        rotate_left
        · (intro V hV; (try dsimp only at hV); go_simp; with_reducible rfl)
        try simp only [Act.put, List.setIfInBounds_toArray, List.set_cons_zero, List.set_cons_succ]
        refine wpAnyM_take (i := 5) (v := ?_) rfl rfl (by kernel_rfl) (fun _ _ _ h => h) (Or.inl ⟨by rfl, ?_⟩) (by assumption) ?_
        rotate_left
        · (intro V hV; (try dsimp only at hV); go_simp; with_reducible rfl)
        try simp only [Act.put, List.setIfInBounds_toArray, List.set_cons_zero, List.set_cons_succ]
        refine wpAnyM_take (i := 6) (v := ?_) rfl rfl (by kernel_rfl) (fun _ _ _ h => h) (Or.inl ⟨by rfl, ?_⟩) (by assumption) ?_
        rotate_left
        · (intro V hV; (try dsimp only at hV); go_simp; with_reducible rfl)
        try simp only [Act.put, List.setIfInBounds_toArray, List.set_cons_zero, List.set_cons_succ]
        refine wpAnyM_step (i := 3) (by kernel_rfl) rfl rfl (fun K hK => ?_)
        go_simp
        refine (XT.out _).mono ?_
        rintro e w7 ⟨A7, c7, rfl, hO, hb⟩
        have HO7 : Hid (OwB w.heap.size w7 A7 (2 + p.length) c7 (txtP p)) := hide (own_more hO HB6.out.size)
        have HI7 : Hid (OwB w.heap.size w7 (some ⟨g, 0, none⟩) 6 c5 B0) := hide (OwB.below (w := wc.drew) HO6.out hb)
        have HB7 : Hid (Below w.heap.size w w7) := hide (below_more HB6.out.drew (Nat.le_refl _) hb)
        have HX7 : Hid (Blk w7 w.heap.size 28 #[.int .i64 (m : Int), .int .i64 (x : Int), .string ⟨p.toArray⟩, .string ⟨p2.toArray⟩, .slice A n c, .bool al]) := hide (HX6.out.drew.below hb HX6.out.lt)
        clear hO hb hHeld
        obtain ⟨_, _, d2, d3, _⟩ := HX7.out.six
        refine hK.out _ _ (fun _ => ⟨d2, d3⟩) ?_
        clear hK K d2 d3
        simp only [List.setIfInBounds_toArray]
        refine wpAnyM_step (i := 4) (by kernel_rfl) rfl rfl (fun K hK => ?_)
        · refine step_append_any _ rfl (.tmp 21) (.tmp 24) 22 rfl w.heap.size 5 i0 _ 1 1 Tryz.underlying22 hi hz0 hz1 hz2 rfl (by omega) (.slice (some ⟨g, 0, none⟩) 6 c5) 6 (bv B0) rfl (by exact HI7.out) _ A7 (2 + p.length) c7 (bv (txtP p)) rfl (by exact HO7.out.rd) (bv_one _) (by unfold maxLen; omega) (by omega) (by exact HB7.out.size) ?_
          intro v8 w8 hown8 hg8 hat8
          obtain ⟨A8, c8, rfl⟩ := own_slice hown8
          rw [← bv_append] at hown8
          have HO8 : Hid (OwB w.heap.size w8 A8 (6 + (2 + p.length)) c8 (B0 ++ txtP p)) := hide hown8
          have HB8 : Hid (Below w.heap.size w w8) := hide (HB7.out.grown hg8 HB7.out.size (fun g hg => (World.ownsRow.lt HI7.out g hg).1))
          have HX8 : Hid (Blk w8 w.heap.size 28 #[.int .i64 (m : Int), .int .i64 (x : Int), .string ⟨p.toArray⟩, .string ⟨p2.toArray⟩, .slice A n c, .bool al]) := hide (HX7.out.grown hg8 (own_blk_ne HI7.out HX7.out (by decide)).symm)
          obtain ⟨_, _, d2, d3, _⟩ := HX8.out.six
          refine hK.out _ _ (fun _ => ⟨d2, d3⟩) ?_
          clear hK K d2 d3
          simp only [List.setIfInBounds_toArray]
          clear HI7 HB7 HX7 hown8 hg8 hat8
          refine wpAnyM_step (i := 7) (by kernel_rfl) rfl rfl (fun K hK => ?_)
          go_simp
          refine (XT2.out _).mono ?_
          rintro e w10 ⟨A10, c10, rfl, hO, hb⟩
          have HO10 : Hid (OwB w.heap.size w10 A10 (2 + p2.length) c10 (txtP p2)) := hide (own_more hO HB8.out.size)
          have HI10 := hide (HO8.out.below hb)
          have HB10 : Hid (Below w.heap.size w w10) := hide (below_more HB8.out (Nat.le_refl _) hb)
          have HX10 : Hid (Blk w10 w.heap.size 28 #[.int .i64 (m : Int), .int .i64 (x : Int), .string ⟨p.toArray⟩, .string ⟨p2.toArray⟩, .slice A n c, .bool al]) := hide (HX8.out.below hb HX8.out.lt)
          clear hO hb
          obtain ⟨_, _, d2, d3, _⟩ := HX10.out.six
          refine hK.out _ _ (fun _ => ⟨d2, d3⟩) ?_
          clear hK K d2 d3
          simp only [List.setIfInBounds_toArray]
          refine wpAnyM_step (i := 8) (by kernel_rfl) rfl rfl (fun K hK => ?_)
          refine step_append_any _ rfl (.tmp 25) (.tmp 28) 22 rfl w.heap.size 5 i0 _ 1 1 Tryz.underlying22 hi hz0 hz1 hz2 rfl (by omega) (.slice A8 (6 + (2 + p.length)) c8) (6 + (2 + p.length)) (bv (B0 ++ txtP p)) rfl (by exact HI10.out) _ A10 (2 + p2.length) c10 (bv (txtP p2)) rfl (by exact HO10.out.rd) (bv_one _) (by unfold maxLen; omega) (by omega) (by exact HB10.out.size) ?_
          intro v9 w9 hown9 hg9 hat9
          obtain ⟨A9, c9, rfl⟩ := own_slice hown9
          rw [← bv_append] at hown9
          have HO9 : Hid (OwB w.heap.size w9 A9 (6 + (2 + p.length) + (2 + p2.length)) c9 (B0 ++ txtP p ++ txtP p2)) := hide hown9
          have HB9 : Hid (Below w.heap.size w w9) := hide (HB10.out.grown hg9 HB10.out.size (fun g hg => (World.ownsRow.lt HI10.out g hg).1))
          have HX9 : Hid (Blk w9 w.heap.size 28 #[.int .i64 (m : Int), .int .i64 (x : Int), .string ⟨p.toArray⟩, .string ⟨p2.toArray⟩, .slice A n c, .bool al]) := hide (HX10.out.grown hg9 (own_blk_ne HI10.out HX10.out (by decide)).symm)
          obtain ⟨_, _, d2, d3, _⟩ := HX9.out.six
          refine hK.out _ _ (fun _ => ⟨d2, d3⟩) ?_
          clear hK K d2 d3
          simp only [List.setIfInBounds_toArray]
          refine wpAnyM_step (i := 9) (by kernel_rfl) rfl rfl (fun K hK => ?_)
          go_simp
          refine hK.out _ _ (fun h => absurd rfl h) ?_
          refine wpAnyM_done (by kernel_rfl) ?_ _
          clear hK K
          go_wp2_with fail
          go_meet
          exact ⟨_, _, rfl, HO9, HB9, HX9⟩
      case rest =>
        obtain ⟨A9, c9, rfl, HO9, HB9, HX9⟩ := hcut
        clear HO6 HB6 HX6 f0 f1 f2 f3 f4 f5 hx6 XT XT2
        obtain ⟨f0, f1, f2, f3, f4, f5⟩ := HX9.out.six
        have hx9 := HX9.out.lt
        have HRx : Hid (Rd wc A n d) := hide (rb HR0.out HB9.out)
        have hsx := HB9.out.size
        have hnl : (6 + (2 + p.length) + (2 + p2.length)) ≤ 522 := by omega
        obtain ⟨nn, hnn⟩ : ∃ k, (6 + (2 + p.length) + (2 + p2.length)) = k := ⟨_, rfl⟩
        rw [hnn] at HO9 hnl ⊢
        clear hnn
        go_wp2_with (at_builtin; (refine wpList_append_any _ rfl (.tmp 30) (.tmp 32) 22 rfl w.heap.size 5 i0 _ 1 1 Tryz.underlying22 hi hz0 hz1 hz2 rfl (by omega) (.slice A9 nn c9) nn (bv (B0 ++ txtP p ++ txtP p2)) rfl (by exact HO9.out) _ A n c (bv d) rfl (by exact HRx.out) (bv_one _) ?e1 ?e2 ?e3 ?_))
        case e1 => unfold maxLen; omega
        case e2 => omega
        case e3 => exact hsx
        intro v11 w11 hown hg hat
        obtain ⟨A11, c11, rfl⟩ := own_slice hown
        have eR : B0 ++ (txtP p ++ txtP p2) ++ d = R := by rw [HEB.out]; simp [List.append_assoc]
        rw [← bv_append, eR] at hown
        have HO11 : Hid (OwB w.heap.size w11 A11 (nn + n) c11 R) := hide hown
        have HB11 : Hid (Below w.heap.size w w11) := hide (HB9.out.grown hg hsx (fun g hg => (World.ownsRow.lt HO9.out g hg).1))
        clear hown hg hat
        go_wp2_with fail
        refine bodyPost_ret (v := .tuple #[.slice A11 (nn + n) c11, .int .i64 0]) (by simp only [results, Tryz.results53]; go_simp) rfl ⟨A11, nn + n, c11, rfl, HO11.out.rd, HO11.out.le, by omega, HB11.out⟩
end Go.Proofs.YtbbobffedgcbhaaGreatDoor
