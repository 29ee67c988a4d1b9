/- The contract of the document's Decode. -/
import Derived.Test.YtbbobffedgcbhaaGreatDoorRefRd
import Derived.Test.YtbbobffedgcbhaaGreatDoorGr
namespace Go.Proofs.YtbbobffedgcbhaaGreatDoor
open Go.RowKit
set_option linter.unusedVariables false
theorem dec_char {bs p t7 p2 d : LB} (hl : ¬ bs.length < 6) (h1 : takeT (bs.drop 6) = some (p, t7)) (h2 : takeT t7 = some (p2, d)) (hn : decP bs ≠ some (recOf bs p p2 d)) : decP bs = none := by
  cases h : decP bs with
  | none => rfl
  | some r =>
    exfalso
    apply hn
    rw [h]
    unfold decP at h
    split at h
    · cases h
    · rename_i r' hr
      split at h
      · injection h with h
        subst h
        by_cases hc : bs.length < 6 ∨ 1 < (bs.getD 5 0).toNat
        · rw [raw_short hc] at hr; cases hr
        · rw [raw_all hc h1 h2] at hr
          injection hr with hr
          rw [hr]
      · cases h
theorem dec_bad_ {bs p t7 p2 d : LB} (hl : ¬ bs.length < 6) (h1 : takeT (bs.drop 6) = some (p, t7)) (h2 : takeT t7 = some (p2, d)) (hn : validP (recOf bs p p2 d) = false) : decP bs = none :=
  dec_char hl h1 h2 (fun h => by have := (dec_enc h).1; rw [hn] at this; cases this)
theorem dec_off {bs p t7 p2 d : LB} (hl : ¬ bs.length < 6) (h1 : takeT (bs.drop 6) = some (p, t7)) (h2 : takeT t7 = some (p2, d)) (hn : (encP (recOf bs p p2 d) == bs) = false) : decP bs = none :=
  dec_char hl h1 h2 (fun h => by have := (dec_enc h).2; rw [beq_eq_false_iff_ne] at hn; exact hn this)
theorem dec_eq {bs p p2 d : LB} (hv : validP (recOf bs p p2 d) = true) (he : (encP (recOf bs p p2 d) == bs) = true) : decP bs = some (recOf bs p p2 d) := by
  have h := enc_dec hv
  rwa [beq_iff_eq.1 he] at h
theorem renc_ok (r : Rec) (A : Option Addr) (n c : Nat) (hd : r.dig.length = n) (w : World) (hR : Rd w A n r.dig) (hV : validP r = true) :
    Calls Tryz.prog 53 #[Rec.v r A n c] w fun e w' => ∃ A' n' c', e = .returned (.tuple #[.slice A' n' c', .int .i64 0]) ∧ Rd w' A' n' (encP r) ∧ n' ≤ c' ∧ n' ≤ 1000 ∧ Below w.heap.size w w' := by
  obtain ⟨⟨h1, h2⟩, hg, hp, hp2, hdl⟩ := valid_parts hV
  have hl := gov_le hg
  obtain ⟨q, op, p, g, d, al⟩ := r
  dsimp only at *
  obtain ⟨m, rfl⟩ : ∃ m : Nat, q = m := ⟨q.toNat, by omega⟩
  obtain ⟨x, rfl⟩ : ∃ x : Nat, op = x := ⟨op.toNat, by omega⟩
  exact renc_yes m x p g d al A n c hd w hR (by omega) (by omega) hp hp2 (by omega) hV
theorem drop_txt {b p r : LB} (h : takeT b = some (p, r)) : r = b.drop (2 + p.length) := by
  obtain ⟨e, _⟩ := takeT_some h
  have hl := txt_len p
  rw [e, ← hl, List.drop_left]
set_option maxRecDepth 100000 in
set_option maxHeartbeats 16000000 in
theorem rdec_any_ (A : Option Addr) (n c : Nat) (bs : LB) (w : World) (hR : Rd w A n bs) (hnc : n ≤ c) (hn : n ≤ 1000000) :
    Calls Tryz.prog 63 #[.slice A n c] w (DecEnd (decP bs) n w) := by
  have hl := hR.len
  have hb := (Below.refl w.heap.size w).alloc (Nat.le_refl _) (.cells #[.int .i64 0, .int .i64 0, .string ⟨#[]⟩, .string ⟨#[]⟩, .slice none 0 0, .bool false] 28)
  have HB := hide hb
  have HZ := hide (Blk.new w 28 #[.int .i64 0, .int .i64 0, .string ⟨#[]⟩, .string ⟨#[]⟩, .slice none 0 0, .bool false])
  by_cases h6 : n < 6
  · have k6 : (n : Int) < 6 := by omega
    rw [dec_raw (raw_short (.inl (by omega)))]
    clear hR hb hl
    go_enter Tryz.func63, Tryz.ntmps63
    go_wp2_with fail
    refine bodyPost_ret (v := .tuple #[.agg #[.int .i64 0, .int .i64 0, .string ⟨#[]⟩, .string ⟨#[]⟩, .slice none 0 0, .bool false], .int .i64 5]) (by simp only [results, Tryz.results63]; go_simp) rfl (dec_bad _ _ _ HB.out)
  have k6 : ¬ (n : Int) < 6 := by omega
  obtain ⟨g, oo, rfl, hg, hcl⟩ := cells_of hR (by omega) (by rw [bv_length]; omega)
  have c4 := hcl 4 _ (bv_get bs 4 (by omega))
  have c5 := hcl 5 _ (bv_get bs 5 (by omega))
  have e4 : bs.getD 4 0 = bs[4] := by simp [List.getD_eq_getElem?_getD, show 4 < bs.length by omega]
  have e5 : bs.getD 5 0 = bs[5] := by simp [List.getD_eq_getElem?_getD, show 5 < bs.length by omega]
  rw [← e4] at c4
  rw [← e5] at c5
  have hx4 := (bs.getD 4 0).toNat_lt
  have hx5 := (bs.getD 5 0).toNat_lt
  have hal : (((bs.getD 5 0).toNat : Int) == 1) = (bs.getD 5 0 == 1) := by
    by_cases h : bs.getD 5 0 = 1
    · rw [h]; rfl
    · have h2 : (bs.getD 5 0).toNat ≠ 1 := fun k => h (UInt8.toNat_inj.1 k)
      rw [beq_eq_false_iff_ne.2 h]
      exact beq_eq_false_iff_ne.2 (by omega)
  have i4 := fun W => u8_at g oo n c 4 4 rfl (by omega) W
  have i5 := fun W => u8_at g oo n c 5 5 rfl (by omega) W
  have d4 := (hb.cell (p := ⟨g, oo + 4, none⟩) hg).trans c4
  have d5 := (hb.cell (p := ⟨g, oo + 5, none⟩) hg).trans c5
  have s1 := fun W => sl_to (some ⟨g, oo, none⟩) n c 4 .i64 4 rfl (by omega) W
  have HR0 := hide hR
  have XG := hide (rget_yes (some ⟨g, oo, none⟩) 4 c (bs.take 4) _ (by omega) (by omega) (rd_to (rb hR hb) (by omega)))
  have hlb : ¬ bs.length < 6 := by omega
  have HD1 := hide (fun h => dec_raw (raw_one (b := bs) h))
  have HD2 := hide (fun p r h1 h => dec_raw (raw_two (b := bs) (p := p) (r := r) h1 h))
  have HD3 := hide (fun p t7 p2 d h1 h2 hn => dec_bad_ (bs := bs) (p := p) (t7 := t7) (p2 := p2) (d := d) hlb h1 h2 hn)
  have HD4 := hide (fun p t7 p2 d h1 h2 hn => dec_off (bs := bs) (p := p) (t7 := t7) (p2 := p2) (d := d) hlb h1 h2 hn)
  have HD5 := hide (fun p p2 d hv he => dec_eq (bs := bs) (p := p) (p2 := p2) (d := d) hv he)
  have XTK := hide (fun k hk W h => taken_any (some ⟨g, oo, none⟩) n c k bs W h hnc hn hk)
  have XTN := hide (fun W => taken_neg (some ⟨g, oo, none⟩) n c W)
  have HDT := hide (fun p r (h : takeT (bs.drop 6) = some (p, r)) => (by rw [drop_txt h, List.drop_drop] : r = bs.drop (6 + (2 + p.length))))
  have hqb : numB (bs.take 4) < 4294967296 := by
    have := numB_lt (bs.take 4)
    rw [List.length_take, show min 4 bs.length = 4 by omega] at this
    exact this
  have HREC : Hid (∀ p p2 d, recOf bs p p2 d = ⟨(numB (bs.take 4) : Int), ((bs.getD 4 0).toNat : Int), p, p2, d, bs.getD 5 0 == 1⟩) := hide (fun p p2 d => rfl)
  have HBL := hide hl
  have HG := hide hg
  have HC4 := hide c4
  have HC5 := hide c5
  clear hR hl hcl e4 e5 c4 c5 hb hlb hg
  generalize (bs.getD 5 0 == 1) = al at *
  generalize (bs.getD 5 0).toNat = x5 at *
  generalize (bs.getD 4 0).toNat = x4 at *
  generalize numB (bs.take 4) = q at *
  have wq : IntKind.i64.wrap (q : Int) = (q : Int) := by simp [IntKind.wrap, IntKind.bits, IntKind.signed]; omega
  have w4 : IntKind.i64.wrap (x4 : Int) = (x4 : Int) := by simp [IntKind.wrap, IntKind.bits, IntKind.signed]; omega
  generalize decP bs = D at *
  go_enter Tryz.func63, Tryz.ntmps63
  go_wp2_with fail
  with_reducible refine XG.out.mono ?_
  rintro e w1 ⟨rfl, rfl⟩
  go_upto_region 4 with (fail)
  go_cut [6] (fun u6 wx => ∃ gb, u6 = .pointer (some ⟨gb, 0, none⟩) ∧ w.heap.size < gb ∧ Hid (Blk wx gb 28 #[.int .i64 (q : Int), .int .i64 (x4 : Int), .string ⟨#[]⟩, .string ⟨#[]⟩, .slice none 0 0, .bool al]) ∧ Hid (Below w.heap.size w wx) ∧ Hid (Blk wx w.heap.size 28 #[.int .i64 0, .int .i64 0, .string ⟨#[]⟩, .string ⟨#[]⟩, .slice none 0 0, .bool false]))
  case first =>
    refine wp_region_M (fun V => V.cell? ⟨g, oo + 4, none⟩ = some (.int .u8 (x4 : Int)) ∧ V.cell? ⟨g, oo + 5, none⟩ = some (.int .u8 (x5 : Int))) 12 rfl ⟨d4, d5⟩ (fun hHeld => ?_)
    refine wpAnyM_take (i := 0) (v := ?_) rfl rfl (by kernel_rfl) (fun _ _ _ h => h) (Or.inl ⟨by rfl, ?_⟩) (by assumption) ?_
    rotate_left
    · (intro V hV; (try dsimp only at hV); go_simp; with_reducible rfl)
    try simp only [Act.put, List.setIfInBounds_toArray, List.set_cons_zero, List.set_cons_succ]
    refine wpAnyM_take (i := 1) (v := ?_) rfl rfl (by kernel_rfl) (fun _ _ _ h => h) (Or.inl ⟨by rfl, ?_⟩) (by assumption) ?_
    rotate_left
    · (intro V hV; (try dsimp only at hV); go_simp; with_reducible rfl)
    try simp only [Act.put, List.setIfInBounds_toArray, List.set_cons_zero, List.set_cons_succ]
    refine wpAnyM_take (i := 2) (v := ?_) rfl rfl (by kernel_rfl) (fun _ _ _ h => h) (Or.inl ⟨by rfl, ?_⟩) (by assumption) ?_
    rotate_left
    · (intro V hV; (try dsimp only at hV); go_simp; with_reducible rfl)
    try simp only [Act.put, List.setIfInBounds_toArray, List.set_cons_zero, List.set_cons_succ]
    refine wpAnyM_take (i := 3) (v := ?_) rfl rfl (by kernel_rfl) (fun _ _ _ h => h) (Or.inl ⟨by rfl, ?_⟩) (by assumption) ?_
    rotate_left
    · (intro V hV; (try dsimp only at hV); go_simp; with_reducible rfl)
    try simp only [Act.put, List.setIfInBounds_toArray, List.set_cons_zero, List.set_cons_succ]
    refine wpAnyM_take (i := 4) (v := ?_) rfl rfl (by kernel_rfl) (fun _ _ _ h => h) (Or.inl ⟨by rfl, ?_⟩) (by assumption) ?_
    rotate_left
    · (intro V hV; (try dsimp only at hV); go_simp; with_reducible rfl)
    try simp only [Act.put, List.setIfInBounds_toArray, List.set_cons_zero, List.set_cons_succ]
    refine wpAnyM_take (i := 5) (v := ?_) rfl rfl (by kernel_rfl) (fun _ _ _ h => h) (Or.inl ⟨by rfl, ?_⟩) (by assumption) ?_
    rotate_left
    · (intro V hV; (try dsimp only at hV); go_simp; with_reducible rfl)
    try simp only [Act.put, List.setIfInBounds_toArray, List.set_cons_zero, List.set_cons_succ]
    refine wpAnyM_take (i := 6) (v := ?_) rfl rfl (by kernel_rfl) (fun _ _ _ h => h) (Or.inl ⟨by rfl, ?_⟩) (by assumption) ?_
    rotate_left
    · (intro V hV; (try dsimp only at hV); go_simp; with_reducible rfl)
    try simp only [Act.put, List.setIfInBounds_toArray, List.set_cons_zero, List.set_cons_succ]
    refine wpAnyM_take (i := 7) (v := ?_) rfl rfl (by kernel_rfl) (fun _ _ _ h => h) (Or.inl ⟨by rfl, ?_⟩) (by assumption) ?_
    rotate_left
    · (intro V hV; (try dsimp only at hV); go_simp; with_reducible rfl)
    try simp only [Act.put, List.setIfInBounds_toArray, List.set_cons_zero, List.set_cons_succ]
    refine wpAnyM_take (i := 8) (v := ?_) rfl rfl (by kernel_rfl) (fun _ _ _ h => h) (Or.inl ⟨by rfl, ?_⟩) (by assumption) ?_
    rotate_left
    · (intro V hV; (try dsimp only at hV); go_simp; with_reducible rfl)
    try simp only [Act.put, List.setIfInBounds_toArray, List.set_cons_zero, List.set_cons_succ]
    refine wpAnyM_take (i := 9) (v := ?_) rfl rfl (by kernel_rfl) (fun _ _ _ h => h) (Or.inl ⟨by rfl, ?_⟩) (by assumption) ?_
    rotate_left
    · (intro V hV; (try dsimp only at hV); go_simp; with_reducible rfl)
    try simp only [Act.put, List.setIfInBounds_toArray, List.set_cons_zero, List.set_cons_succ]
    refine wpAnyM_take (i := 10) (v := ?_) rfl rfl (by kernel_rfl) (fun _ _ _ h => h) (Or.inl ⟨by rfl, ?_⟩) (by assumption) ?_
    rotate_left
    · (intro V hV; (try dsimp only at hV); go_simp; with_reducible rfl)
    try simp only [Act.put, List.setIfInBounds_toArray, List.set_cons_zero, List.set_cons_succ]
    refine wpAnyM_step (i := 11) (by kernel_rfl) rfl rfl (fun K hK => ?_)
    go_simp
    have HBa := hide (HB.out.drew.alloc HB.out.size (.cells #[.int .i64 0, .int .i64 0, .string ⟨#[]⟩, .string ⟨#[]⟩, .slice none 0 0, .bool false] 28))
    have j4 := (HBa.out.cell (p := ⟨g, oo + 4, none⟩) HG.out).trans HC4.out
    have j5 := (HBa.out.cell (p := ⟨g, oo + 5, none⟩) HG.out).trans HC5.out
    refine hK.out _ _ (fun _ => ⟨j4, j5⟩) ?_
    clear hK K hHeld
    simp only [List.setIfInBounds_toArray]
    refine wpAnyM_step (i := 12) (by kernel_rfl) rfl rfl (fun K hK => ?_)
    go_simp
    refine hK.out _ _ (fun h => absurd rfl h) ?_
    refine wpAnyM_done (by kernel_rfl) ?_ _
    clear hK K
    go_wp2_with fail
    go_meet
    have hbn : Blk ((w.alloc (.cells #[.int .i64 0, .int .i64 0, .string ⟨#[]⟩, .string ⟨#[]⟩, .slice none 0 0, .bool false] 28)).alloc (.cells #[.int .i64 (q : Int), .int .i64 (x4 : Int), .string ⟨#[]⟩, .string ⟨#[]⟩, .slice none 0 0, .bool al] 28)) (w.heap.size + 1) 28 #[.int .i64 (q : Int), .int .i64 (x4 : Int), .string ⟨#[]⟩, .string ⟨#[]⟩, .slice none 0 0, .bool al] := by have := Blk.new (w.alloc (.cells #[.int .i64 0, .int .i64 0, .string ⟨#[]⟩, .string ⟨#[]⟩, .slice none 0 0, .bool false] 28)) 28 #[.int .i64 (q : Int), .int .i64 (x4 : Int), .string ⟨#[]⟩, .string ⟨#[]⟩, .slice none 0 0, .bool al]; simpa using this
    exact ⟨w.heap.size + 1, rfl, by omega, hide hbn.drew, hide ((HB.out.alloc HB.out.size _).drew), hide ((HZ.out.alloc _).drew)⟩
  case rest =>
    obtain ⟨gb, rfl, hgb, HC, HB4, HZ4⟩ := hcut
    clear HB HZ HC4 HC5 HG i4 i5 s1 XG d4 d5 hal wq w4 hx4 hx5
    have XT1 := hide (XTK.out 6 (by omega))
    rw [show ((6 : Nat) : Int) = 6 from rfl] at XT1
    cases hT1 : takeT (bs.drop 6) with
    | none =>
      obtain rfl : D = none := HD1.out hT1
      rw [tk_none hT1] at XT1
      clear HD1 HD2 HD3 HD4 HD5 XTK HDT HREC hT1
      go_wp2_with fail
      with_reducible refine (XT1.out _ (rb HR0.out HB4.out)).mono ?_
      rintro e w5 ⟨rfl, hb⟩
      have HB5 := hide (below_more HB4.out (Nat.le_refl _) hb)
      have HK5 := hide (HC.out.below hb HC.out.lt)
      have HZ5 := hide (HZ4.out.below hb HZ4.out.lt)
      clear hb
      obtain ⟨u0, u1, u2, u3, u4, u5⟩ := HK5.out.six
      have uz0 := HK5.out.frozen 0
      have uz1 := HK5.out.frozen 1
      have uz2 := HK5.out.frozen 2
      have uz3 := HK5.out.frozen 3
      have uz4 := HK5.out.frozen 4
      have uz5 := HK5.out.frozen 5
      have ul := HK5.out.lt
      obtain ⟨W6, hW6⟩ : ∃ W, w5.setCell ⟨gb, 2, none⟩ (.string ⟨#[]⟩) = W := ⟨_, rfl⟩
      have HB6 : Hid (Below w.heap.size w W6) := hide (by rw [← hW6]; exact HB5.out.setCell (by show w.heap.size ≤ gb; omega) _)
      have HK6 : Hid (Blk W6 gb 28 #[.int .i64 (q : Int), .int .i64 (x4 : Int), .string ⟨#[]⟩, .string ⟨#[]⟩, .slice none 0 0, .bool al]) := hide (by rw [← hW6]; exact HK5.out.set_ 2 _)
      have HZ6 : Hid (Blk W6 w.heap.size 28 #[.int .i64 0, .int .i64 0, .string ⟨#[]⟩, .string ⟨#[]⟩, .slice none 0 0, .bool false]) := hide (by rw [← hW6]; exact HZ5.out.far (by show w.heap.size ≠ gb; omega) _)
      have HW6 := hide hW6
      clear hW6
      go_wp2_with fail
      rw [HW6.out]
      with_reducible refine (XTN.out _).mono ?_
      rintro e w7 ⟨rfl, hb⟩
      have HB7 := hide (below_more HB6.out (Nat.le_refl _) hb)
      have HK7 := hide (HK6.out.below hb HK6.out.lt)
      have HZ7 := hide (HZ6.out.below hb HZ6.out.lt)
      clear hb
      clear u0 u1 u2 u3 u4 u5 uz0 uz1 uz2 uz3 uz4 uz5 ul
      obtain ⟨u0, u1, u2, u3, u4, u5⟩ := HK7.out.six
      have uz0 := HK7.out.frozen 0
      have uz1 := HK7.out.frozen 1
      have uz2 := HK7.out.frozen 2
      have uz3 := HK7.out.frozen 3
      have uz4 := HK7.out.frozen 4
      have uz5 := HK7.out.frozen 5
      have ul := HK7.out.lt
      obtain ⟨z0, z1, z2, z3, z4, z5⟩ := HZ7.out.six
      have zz0 := HZ7.out.frozen 0
      have zz1 := HZ7.out.frozen 1
      have zz2 := HZ7.out.frozen 2
      have zz3 := HZ7.out.frozen 3
      have zz4 := HZ7.out.frozen 4
      have zz5 := HZ7.out.frozen 5
      have zl := HZ7.out.lt
      clear HW6 HB4 HB5 HB6 HK5 HK6 HZ4 HZ5 HZ6 HC XT1 XTN
      go_wp2_with fail
      refine bodyPost_ret (v := .tuple #[.agg #[.int .i64 0, .int .i64 0, .string ⟨#[]⟩, .string ⟨#[]⟩, .slice none 0 0, .bool false], .int .i64 5]) (by simp only [results, Tryz.results63]; go_simp) rfl (dec_bad _ _ _ (((((((HB7.out.setCell (by show w.heap.size ≤ gb; omega) _).setCell (by exact Nat.le_refl _) _).setCell (by exact Nat.le_refl _) _).setCell (by exact Nat.le_refl _) _).setCell (by exact Nat.le_refl _) _).setCell (by exact Nat.le_refl _) _).setCell (by exact Nat.le_refl _) _))
    | some T =>
      obtain ⟨p, t7⟩ := T
      have ht7 := HDT.out p t7 hT1
      rw [tk_some hT1] at XT1
      have hpl : p.length ≤ 70000 := by obtain ⟨_, hh⟩ := takeT_some hT1; omega
      have hk1 : 6 + (2 + p.length) ≤ n := by
        obtain ⟨hh, _⟩ := takeT_some hT1
        have := congrArg List.length hh
        rw [List.length_append, txt_len, List.length_drop, HBL.out] at this
        omega
      have HT1 := hide hT1
      clear hT1 HD1 HDT
      obtain ⟨k1, hk1e⟩ : ∃ k, 6 + (2 + p.length) = k := ⟨_, rfl⟩
      rw [show 6 + 2 + p.length = k1 by omega] at XT1
      rw [hk1e] at ht7 hk1
      have XT2 := hide (XTK.out k1 hk1)
      clear hk1e
      cases hT2 : takeT t7 with
      | none =>
        obtain rfl : D = none := HD2.out p t7 HT1.out hT2
        rw [tk_none (by rw [← ht7]; exact hT2)] at XT2
        clear HD2 HD3 HD4 HD5 XTK HREC hT2 ht7
        go_wp2_with fail
        with_reducible refine (XT1.out _ (rb HR0.out HB4.out)).mono ?_
        rintro e w5 ⟨rfl, hb⟩
        have HB5 := hide (below_more HB4.out (Nat.le_refl _) hb)
        have HK5 := hide (HC.out.below hb HC.out.lt)
        have HZ5 := hide (HZ4.out.below hb HZ4.out.lt)
        clear hb
        obtain ⟨u0, u1, u2, u3, u4, u5⟩ := HK5.out.six
        have uz0 := HK5.out.frozen 0
        have uz1 := HK5.out.frozen 1
        have uz2 := HK5.out.frozen 2
        have uz3 := HK5.out.frozen 3
        have uz4 := HK5.out.frozen 4
        have uz5 := HK5.out.frozen 5
        have ul := HK5.out.lt
        obtain ⟨W6, hW6⟩ : ∃ W, w5.setCell ⟨gb, 2, none⟩ (.string ⟨p.toArray⟩) = W := ⟨_, rfl⟩
        have HB6 : Hid (Below w.heap.size w W6) := hide (by rw [← hW6]; exact HB5.out.setCell (by show w.heap.size ≤ gb; omega) _)
        have HK6 : Hid (Blk W6 gb 28 #[.int .i64 (q : Int), .int .i64 (x4 : Int), .string ⟨p.toArray⟩, .string ⟨#[]⟩, .slice none 0 0, .bool al]) := hide (by rw [← hW6]; exact HK5.out.set_ 2 _)
        have HZ6 : Hid (Blk W6 w.heap.size 28 #[.int .i64 0, .int .i64 0, .string ⟨#[]⟩, .string ⟨#[]⟩, .slice none 0 0, .bool false]) := hide (by rw [← hW6]; exact HZ5.out.far (by show w.heap.size ≠ gb; omega) _)
        have HW6 := hide hW6
        clear hW6
        go_wp2_with fail
        rw [HW6.out]
        with_reducible refine (XT2.out _ (rb HR0.out HB6.out)).mono ?_
        rintro e w7 ⟨rfl, hb⟩
        have HB7 := hide (below_more HB6.out (Nat.le_refl _) hb)
        have HK7 := hide (HK6.out.below hb HK6.out.lt)
        have HZ7 := hide (HZ6.out.below hb HZ6.out.lt)
        clear hb
        clear u0 u1 u2 u3 u4 u5 uz0 uz1 uz2 uz3 uz4 uz5 ul
        obtain ⟨u0, u1, u2, u3, u4, u5⟩ := HK7.out.six
        have uz0 := HK7.out.frozen 0
        have uz1 := HK7.out.frozen 1
        have uz2 := HK7.out.frozen 2
        have uz3 := HK7.out.frozen 3
        have uz4 := HK7.out.frozen 4
        have uz5 := HK7.out.frozen 5
        have ul := HK7.out.lt
        obtain ⟨z0, z1, z2, z3, z4, z5⟩ := HZ7.out.six
        have zz0 := HZ7.out.frozen 0
        have zz1 := HZ7.out.frozen 1
        have zz2 := HZ7.out.frozen 2
        have zz3 := HZ7.out.frozen 3
        have zz4 := HZ7.out.frozen 4
        have zz5 := HZ7.out.frozen 5
        have zl := HZ7.out.lt
        clear HW6 HB4 HB5 HB6 HK5 HK6 HZ4 HZ5 HZ6 HC XT1 XTN
        go_wp2_with fail
        refine bodyPost_ret (v := .tuple #[.agg #[.int .i64 0, .int .i64 0, .string ⟨#[]⟩, .string ⟨#[]⟩, .slice none 0 0, .bool false], .int .i64 5]) (by simp only [results, Tryz.results63]; go_simp) rfl (dec_bad _ _ _ (((((((HB7.out.setCell (by show w.heap.size ≤ gb; omega) _).setCell (by exact Nat.le_refl _) _).setCell (by exact Nat.le_refl _) _).setCell (by exact Nat.le_refl _) _).setCell (by exact Nat.le_refl _) _).setCell (by exact Nat.le_refl _) _).setCell (by exact Nat.le_refl _) _))
      | some T2 =>
        obtain ⟨p2, d⟩ := T2
        rw [tk_some (by rw [← ht7]; exact hT2)] at XT2
        have hdd := drop_txt hT2
        rw [ht7, List.drop_drop] at hdd
        have hp2l : p2.length ≤ 70000 := by obtain ⟨_, hh⟩ := takeT_some hT2; omega
        have hk2 : k1 + (2 + p2.length) ≤ n := by
          obtain ⟨hh, _⟩ := takeT_some hT2
          have := congrArg List.length hh
          rw [List.length_append, txt_len, ht7, List.length_drop, HBL.out] at this
          omega
        have HR3 := hide (HREC.out p p2 d)
        have XD3 := hide (HD3.out p t7 p2 d HT1.out hT2)
        have XD4 := hide (HD4.out p t7 p2 d HT1.out hT2)
        have XD5 := hide (HD5.out p p2 d)
        rw [HR3.out] at XD3 XD4 XD5
        clear hT2 HD2 HD3 HD4 HD5 HREC HT1 XTK XTN HR3 ht7
        obtain ⟨k2, hk2e⟩ : ∃ k, k1 + (2 + p2.length) = k := ⟨_, rfl⟩
        rw [show k1 + 2 + p2.length = k2 by omega] at XT2
        rw [hk2e] at hdd hk2
        have hk20 : ¬ (k2 : Int) < 0 := by omega
        have s2 := fun W => sl_from (some ⟨g, oo, none⟩) n c k2 .i64 (k2 : Int) rfl hk2 W
        have HRT : Hid (Rd w (from_ c k2 (some ⟨g, oo, none⟩)) (n - k2) d) := hide (by rw [hdd]; exact rd_from HR0.out hk2 hnc)
        obtain ⟨n8, hn8⟩ : ∃ x, n - k2 = x := ⟨_, rfl⟩
        obtain ⟨c8, hc8⟩ : ∃ x, c - k2 = x := ⟨_, rfl⟩
        have hn8n : n8 ≤ n := by omega
        rw [hn8] at s2 HRT
        rw [hc8] at s2
        generalize from_ c k2 (some (⟨g, oo, none⟩ : Addr)) = A8 at *
        clear hdd hk2e hn8 hc8
        obtain ⟨i0, hi, hz0, hz1, hz2⟩ := info_parts infoU8
        go_wp2_with fail
        with_reducible refine (XT1.out _ (rb HR0.out HB4.out)).mono ?_
        rintro e w5 ⟨rfl, hb⟩
        have HB5 := hide (below_more HB4.out (Nat.le_refl _) hb)
        have HK5 := hide (HC.out.below hb HC.out.lt)
        have HZ5 := hide (HZ4.out.below hb HZ4.out.lt)
        clear hb
        obtain ⟨u0, u1, u2, u3, u4, u5⟩ := HK5.out.six
        have uz0 := HK5.out.frozen 0
        have uz1 := HK5.out.frozen 1
        have uz2 := HK5.out.frozen 2
        have uz3 := HK5.out.frozen 3
        have uz4 := HK5.out.frozen 4
        have uz5 := HK5.out.frozen 5
        have ul := HK5.out.lt
        obtain ⟨W6, hW6⟩ : ∃ W, w5.setCell ⟨gb, 2, none⟩ (.string ⟨p.toArray⟩) = W := ⟨_, rfl⟩
        have HB6 : Hid (Below w.heap.size w W6) := hide (by rw [← hW6]; exact HB5.out.setCell (by show w.heap.size ≤ gb; omega) _)
        have HK6 : Hid (Blk W6 gb 28 #[.int .i64 (q : Int), .int .i64 (x4 : Int), .string ⟨p.toArray⟩, .string ⟨#[]⟩, .slice none 0 0, .bool al]) := hide (by rw [← hW6]; exact HK5.out.set_ 2 _)
        have HZ6 : Hid (Blk W6 w.heap.size 28 #[.int .i64 0, .int .i64 0, .string ⟨#[]⟩, .string ⟨#[]⟩, .slice none 0 0, .bool false]) := hide (by rw [← hW6]; exact HZ5.out.far (by show w.heap.size ≠ gb; omega) _)
        have HW6 := hide hW6
        clear hW6
        go_wp2_with fail
        rw [HW6.out]
        with_reducible refine (XT2.out _ (rb HR0.out HB6.out)).mono ?_
        rintro e w7 ⟨rfl, hb⟩
        have HB7 := hide (below_more HB6.out (Nat.le_refl _) hb)
        have HK7 := hide (HK6.out.below hb HK6.out.lt)
        have HZ7 := hide (HZ6.out.below hb HZ6.out.lt)
        clear hb
        clear u0 u1 u2 u3 u4 u5 uz0 uz1 uz2 uz3 uz4 uz5 ul
        obtain ⟨u0, u1, u2, u3, u4, u5⟩ := HK7.out.six
        have uz0 := HK7.out.frozen 0
        have uz1 := HK7.out.frozen 1
        have uz2 := HK7.out.frozen 2
        have uz3 := HK7.out.frozen 3
        have uz4 := HK7.out.frozen 4
        have uz5 := HK7.out.frozen 5
        have ul := HK7.out.lt
        clear HW6 HB4 HB5 HB6 HK5 HK6 HZ4 HZ5 HZ6 HC XT1 XT2
        obtain ⟨W8, hW8⟩ : ∃ W, w7.setCell ⟨gb, 3, none⟩ (.string ⟨p2.toArray⟩) = W := ⟨_, rfl⟩
        have HB8 : Hid (Below w.heap.size w W8) := hide (by rw [← hW8]; exact HB7.out.setCell (by show w.heap.size ≤ gb; omega) _)
        have HK8 : Hid (Blk W8 gb 28 #[.int .i64 (q : Int), .int .i64 (x4 : Int), .string ⟨p.toArray⟩, .string ⟨p2.toArray⟩, .slice none 0 0, .bool al]) := hide (by rw [← hW8]; exact HK7.out.set_ 3 _)
        have HZ8 : Hid (Blk W8 w.heap.size 28 #[.int .i64 0, .int .i64 0, .string ⟨#[]⟩, .string ⟨#[]⟩, .slice none 0 0, .bool false]) := hide (by rw [← hW8]; exact HZ7.out.far (by show w.heap.size ≠ gb; omega) _)
        have HW8 := hide hW8
        clear hW8
        have hszW : W8.heap.size = w7.heap.size := by rw [← HW8.out]; simp
        have hO0 : ((w7.setCell ⟨gb, 3, none⟩ (.string ⟨p2.toArray⟩)).alloc (.cells #[] 5)).ownsRow w.heap.size 5 1 (.slice (some ⟨w7.heap.size, 0, none⟩) 0 0) 0 [] := by
          have := (Blk.new W8 5 #[]).own HB8.out.size (cap := 0) (by unfold maxLen; omega) rfl
          rw [hszW] at this
          rw [HW8.out]
          exact this
        have HRW : Hid (Rd ((w7.setCell ⟨gb, 3, none⟩ (.string ⟨p2.toArray⟩)).alloc (.cells #[] 5)) A8 n8 d) := hide (by rw [HW8.out]; exact rb (rb HRT.out HB8.out) ((Below.refl W8.heap.size W8).alloc (Nat.le_refl _) (.cells #[] 5)))
        have HBW : Hid (Below w.heap.size w ((w7.setCell ⟨gb, 3, none⟩ (.string ⟨p2.toArray⟩)).alloc (.cells #[] 5))) := hide (by rw [HW8.out]; exact HB8.out.alloc HB8.out.size (.cells #[] 5))
        have HKW : Hid (Blk ((w7.setCell ⟨gb, 3, none⟩ (.string ⟨p2.toArray⟩)).alloc (.cells #[] 5)) gb 28 #[.int .i64 (q : Int), .int .i64 (x4 : Int), .string ⟨p.toArray⟩, .string ⟨p2.toArray⟩, .slice none 0 0, .bool al]) := hide (by rw [HW8.out]; exact HK8.out.alloc (.cells #[] 5))
        have HZW : Hid (Blk ((w7.setCell ⟨gb, 3, none⟩ (.string ⟨p2.toArray⟩)).alloc (.cells #[] 5)) w.heap.size 28 #[.int .i64 0, .int .i64 0, .string ⟨#[]⟩, .string ⟨#[]⟩, .slice none 0 0, .bool false]) := hide (by rw [HW8.out]; exact HZ8.out.alloc (.cells #[] 5))
        have HO0 := hide hO0
        clear hO0 hszW HW8 HB8 HK8 HZ8
        go_wp2_with (at_builtin; (refine wpList_append_any _ rfl (.tmp 48) (.tmp 51) 22 rfl w.heap.size 5 i0 _ 1 1 Tryz.underlying22 hi hz0 hz1 hz2 rfl (by omega) (.slice (some ⟨w7.heap.size, 0, none⟩) 0 0) 0 [] rfl (by exact HO0.out) _ A8 n8 c8 (bv d) rfl (by exact HRW.out) (bv_one _) ?e1 ?e2 ?e3 ?_))
        case e1 => unfold maxLen; omega
        case e2 => omega
        case e3 => exact HBW.out.size
        intro v9 w9 hown hg hat
        obtain ⟨A10, c10, rfl⟩ := own_slice hown
        have HO9 : Hid (OwB w.heap.size w9 A10 n8 c10 d) := hide hown
        have HB9 : Hid (Below w.heap.size w w9) := hide (HBW.out.grown hg HBW.out.size (fun g hg => (World.ownsRow.lt HO0.out g hg).1))
        have HK9 : Hid (Blk w9 gb 28 #[.int .i64 (q : Int), .int .i64 (x4 : Int), .string ⟨p.toArray⟩, .string ⟨p2.toArray⟩, .slice none 0 0, .bool al]) := hide (HKW.out.grown hg (own_blk_ne HO0.out HKW.out (by decide)).symm)
        have HZ9 : Hid (Blk w9 w.heap.size 28 #[.int .i64 0, .int .i64 0, .string ⟨#[]⟩, .string ⟨#[]⟩, .slice none 0 0, .bool false]) := hide (HZW.out.grown hg (own_blk_ne HO0.out HZW.out (by decide)).symm)
        have hdl : d.length = n8 := HO9.out.rd.len
        clear u0 u1 u2 u3 u4 u5 uz0 uz1 uz2 uz3 uz4 uz5 ul
        obtain ⟨u0, u1, u2, u3, u4, u5⟩ := HK9.out.six
        have uz0 := HK9.out.frozen 0
        have uz1 := HK9.out.frozen 1
        have uz2 := HK9.out.frozen 2
        have uz3 := HK9.out.frozen 3
        have uz4 := HK9.out.frozen 4
        have uz5 := HK9.out.frozen 5
        have ul := HK9.out.lt
        clear hown hg hat HBW HKW HZW HRW HO0 HK7 HZ7 HB7
        obtain ⟨W10, hW10⟩ : ∃ W, w9.setCell ⟨gb, 4, none⟩ (.slice A10 n8 c10) = W := ⟨_, rfl⟩
        have HB10 : Hid (Below w.heap.size w W10) := hide (by rw [← hW10]; exact HB9.out.setCell (by show w.heap.size ≤ gb; omega) _)
        have HK10 : Hid (Blk W10 gb 28 #[.int .i64 (q : Int), .int .i64 (x4 : Int), .string ⟨p.toArray⟩, .string ⟨p2.toArray⟩, .slice A10 n8 c10, .bool al]) := hide (by rw [← hW10]; exact HK9.out.set_ 4 _)
        have HZ10 : Hid (Blk W10 w.heap.size 28 #[.int .i64 0, .int .i64 0, .string ⟨#[]⟩, .string ⟨#[]⟩, .slice none 0 0, .bool false]) := hide (by rw [← hW10]; exact HZ9.out.far (by show w.heap.size ≠ gb; omega) _)
        have HO10 : Hid (OwB w.heap.size W10 A10 n8 c10 d) := hide (by rw [← hW10]; exact own_set_blk HO9.out HK9.out (by decide) _)
        have HW10 := hide hW10
        clear hW10
        have XEK := hide (fun hV => renc_ok ⟨(q : Int), (x4 : Int), p, p2, d, al⟩ A10 n8 c10 hdl W10 HO10.out.rd hV)
        have XEB := hide (fun hV => renc_bad ⟨(q : Int), (x4 : Int), p, p2, d, al⟩ A10 n8 c10 hdl W10 hV)
        have HDL := hide hdl
        unfold Rec.v at XEK XEB
        dsimp only at XEK XEB
        obtain ⟨V, hV⟩ : ∃ V, validP ⟨(q : Int), (x4 : Int), p, p2, d, al⟩ = V := ⟨_, rfl⟩
        obtain ⟨E, hE⟩ : ∃ E, encP ⟨(q : Int), (x4 : Int), p, p2, d, al⟩ = E := ⟨_, rfl⟩
        rw [hV] at XEK XEB XD3 XD5
        rw [hE] at XEK XD4 XD5
        clear hV hE hdl HK9 HZ9 HB9 HO9
        go_wp2_with fail
        rw [HW10.out]
        cases V with
        | false =>
          obtain rfl : D = none := XD3.out rfl
          with_reducible refine (XEB.out rfl).mono ?_
          rintro e w11 ⟨rfl, hb⟩
          have HB11 := hide (below_more HB10.out (Nat.le_refl _) hb)
          have HK11 := hide (HK10.out.below hb HK10.out.lt)
          have HZ11 := hide (HZ10.out.below hb HZ10.out.lt)
          clear hb
          clear u0 u1 u2 u3 u4 u5 uz0 uz1 uz2 uz3 uz4 uz5 ul
          obtain ⟨z0, z1, z2, z3, z4, z5⟩ := HZ11.out.six
          have zz0 := HZ11.out.frozen 0
          have zz1 := HZ11.out.frozen 1
          have zz2 := HZ11.out.frozen 2
          have zz3 := HZ11.out.frozen 3
          have zz4 := HZ11.out.frozen 4
          have zz5 := HZ11.out.frozen 5
          have zl := HZ11.out.lt
          clear HW10 HB10 HK10 HZ10 HO10 XEK XEB XD3 XD4 XD5 HK11
          go_wp2_with fail
          refine bodyPost_ret (v := .tuple #[.agg #[.int .i64 0, .int .i64 0, .string ⟨#[]⟩, .string ⟨#[]⟩, .slice none 0 0, .bool false], .int .i64 5]) (by simp only [results, Tryz.results63]; go_simp) rfl (dec_bad _ _ _ ((((((HB11.out.setCell (by exact Nat.le_refl _) _).setCell (by exact Nat.le_refl _) _).setCell (by exact Nat.le_refl _) _).setCell (by exact Nat.le_refl _) _).setCell (by exact Nat.le_refl _) _).setCell (by exact Nat.le_refl _) _))
        | true =>
          with_reducible refine (XEK.out rfl).mono ?_
          rintro e w11 ⟨A11, n11, c11, rfl, hR11, hn11, hn11b, hb⟩
          have HO11 := hide (HO10.out.below hb)
          have HB11 := hide (below_more HB10.out (Nat.le_refl _) hb)
          have HK11 := hide (HK10.out.below hb HK10.out.lt)
          have HZ11 := hide (HZ10.out.below hb HZ10.out.lt)
          clear hb
          clear u0 u1 u2 u3 u4 u5 uz0 uz1 uz2 uz3 uz4 uz5 ul
          obtain ⟨u0, u1, u2, u3, u4, u5⟩ := HK11.out.six
          have uz0 := HK11.out.frozen 0
          have uz1 := HK11.out.frozen 1
          have uz2 := HK11.out.frozen 2
          have uz3 := HK11.out.frozen 3
          have uz4 := HK11.out.frozen 4
          have uz5 := HK11.out.frozen 5
          have ul := HK11.out.lt
          obtain ⟨z0, z1, z2, z3, z4, z5⟩ := HZ11.out.six
          have zz0 := HZ11.out.frozen 0
          have zz1 := HZ11.out.frozen 1
          have zz2 := HZ11.out.frozen 2
          have zz3 := HZ11.out.frozen 3
          have zz4 := HZ11.out.frozen 4
          have zz5 := HZ11.out.frozen 5
          have zl := HZ11.out.lt
          clear HW10 HB10 HK10 HZ10 HO10 XEK XEB XD3
          have hcx := conv_str (c := c11) hR11
          have hcb := conv_str (c := c) (rb HR0.out HB11.out)
          clear hR11
          cases hEb : (E == bs) with
          | false =>
            obtain rfl : D = none := XD4.out hEb
            have hEn : (E != bs) = true := by rw [bne, hEb]; rfl
            clear XD4 XD5
            go_wp2_with fail
            refine bodyPost_ret (v := .tuple #[.agg #[.int .i64 0, .int .i64 0, .string ⟨#[]⟩, .string ⟨#[]⟩, .slice none 0 0, .bool false], .int .i64 5]) (by simp only [results, Tryz.results63]; go_simp) rfl (dec_bad _ _ _ ((((((HB11.out.setCell (by exact Nat.le_refl _) _).setCell (by exact Nat.le_refl _) _).setCell (by exact Nat.le_refl _) _).setCell (by exact Nat.le_refl _) _).setCell (by exact Nat.le_refl _) _).setCell (by exact Nat.le_refl _) _))
          | true =>
            have HDE := hide (XD5.out rfl hEb)
            have hEn : (E != bs) = false := by rw [bne, hEb]; rfl
            clear XD4 XD5
            obtain ⟨WE, hWE⟩ : ∃ W, ((((((w11.setCell ⟨w.heap.size, 0, none⟩ (.int .i64 (q : Int))).setCell ⟨w.heap.size, 1, none⟩ (.int .i64 (x4 : Int))).setCell ⟨w.heap.size, 2, none⟩ (.string ⟨p.toArray⟩)).setCell ⟨w.heap.size, 3, none⟩ (.string ⟨p2.toArray⟩)).setCell ⟨w.heap.size, 4, none⟩ (.slice A10 n8 c10)).setCell ⟨w.heap.size, 5, none⟩ (.bool al)) = W := ⟨_, rfl⟩
            have HBE : Hid (Below w.heap.size w WE) := hide (by rw [← hWE]; exact ((((((HB11.out.setCell (by exact Nat.le_refl _) _).setCell (by exact Nat.le_refl _) _).setCell (by exact Nat.le_refl _) _).setCell (by exact Nat.le_refl _) _).setCell (by exact Nat.le_refl _) _).setCell (by exact Nat.le_refl _) _))
            have HRE : Hid (OwB w.heap.size WE A10 n8 c10 d) := hide (by
              rw [← hWE]
              exact own_six HO11.out HZ11.out _ _ _ _ _ _)
            have HZE : Hid (Blk WE w.heap.size 28 #[.int .i64 (q : Int), .int .i64 (x4 : Int), .string ⟨p.toArray⟩, .string ⟨p2.toArray⟩, .slice A10 n8 c10, .bool al]) := hide (by
              rw [← hWE]
              exact (((((HZ11.out.set_ 0 _).set_ 1 _).set_ 2 _).set_ 3 _).set_ 4 _).set_ 5 _)
            have hDe : (D.getD zR) = ⟨(q : Int), (x4 : Int), p, p2, d, al⟩ := by rw [HDE.out]; rfl
            have hDs : D.isSome = true := by rw [HDE.out]; rfl
            have HEND : Hid (DecEnd D n w (.returned (.tuple #[.agg #[.int .i64 (q : Int), .int .i64 (x4 : Int), .string ⟨p.toArray⟩, .string ⟨p2.toArray⟩, .slice A10 n8 c10, .bool al], .int .i64 0])) WE) := hide ⟨A10, n8, c10, by rw [hDe, hDs]; rfl, by rw [hDe]; exact HRE.out.rd, HRE.out.le, hn8n, HBE.out, HRE.out.fresh⟩
            clear HK11 HZ11 HDL HO11 HDE hDe hDs HB11
            go_wp2_with fail
            clear hWE u0 u1 u2 u3 u4 u5 uz0 uz1 uz2 uz3 uz4 uz5 z0 z1 z2 z3 z4 z5 zz0 zz1 zz2 zz3 zz4 zz5
            obtain ⟨y0, y1, y2, y3, y4, y5⟩ := HZE.out.six
            have yz0 := HZE.out.frozen 0
            have yz1 := HZE.out.frozen 1
            have yz2 := HZE.out.frozen 2
            have yz3 := HZE.out.frozen 3
            have yz4 := HZE.out.frozen 4
            have yz5 := HZE.out.frozen 5
            have yl := HZE.out.lt
            refine bodyPost_ret (v := .tuple #[.agg #[.int .i64 (q : Int), .int .i64 (x4 : Int), .string ⟨p.toArray⟩, .string ⟨p2.toArray⟩, .slice A10 n8 c10, .bool al], .int .i64 0]) (by simp only [results, Tryz.results63]; go_simp) rfl HEND.out
end Go.Proofs.YtbbobffedgcbhaaGreatDoor
