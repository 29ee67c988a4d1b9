/- The contract of record.Encode. -/
import Derived.Test.YtbbobffedgcbhaaGreatDoorRecB
import Derived.Test.YtbbobffedgcbhaaGreatDoorGr
import Derived.Lib.AppendStr
import Derived.Deep.DeepCutAuto
namespace Go.Proofs.YtbbobffedgcbhaaGreatDoor
open Go.RowKit
set_option linter.unusedVariables false
section
variable {P : Program} {ops : Array Oper} {Q : Exit → Act → World → Prop} {md : Region.Mode} {S : World → Prop} {L : Nat}
/-- Two operations may come up: either order. -/
theorem wpAnyM_two {l : List Oper} {i j : Nat} {o p : Oper} {fuel : Nat} {listed : Array Bool} {a : Act} {w : World} (hr : Region.ready md l.toArray listed = [i, j]) (ho : l[i]? = some o) (hi' : l.toArray[i]? = l[i]?) (hp : l[j]? = some p) (hj' : l.toArray[j]? = l[j]?)
    (h1 : ∀ K' : Act → World → Prop, Shut (∀ a w, (i ≠ L → S w) → wpAnyM P md l.toArray Q S L fuel (listed.setIfInBounds i true) a w → K' a w) → if Region.wanted o (yielded l.toArray a.tmps) = true then Oper.wp P o a w K' Q else K' (a.put o.dst undef) w)
    (h2 : ∀ K' : Act → World → Prop, Shut (∀ a w, (j ≠ L → S w) → wpAnyM P md l.toArray Q S L fuel (listed.setIfInBounds j true) a w → K' a w) → if Region.wanted p (yielded l.toArray a.tmps) = true then Oper.wp P p a w K' Q else K' (a.put p.dst undef) w) :
    wpAnyM P md l.toArray Q S L (fuel + 1) listed a w := by
  refine ⟨fun h0 => (by rw [hr] at h0; cases h0), fun k hk => ?_⟩
  rw [hr] at hk
  rcases List.mem_cons.1 hk with rfl | hk
  · exact wpOp_step (hi'.trans ho) (fun K' hK => h1 K' (fun a w hS hW => hK a w ⟨hS, hW⟩))
  · obtain rfl : k = j := by simpa using hk
    exact wpOp_step (hj'.trans hp) (fun K' hK => h2 K' (fun a w hS hW => hK a w ⟨hS, hW⟩))
end
def preE (b0 p p2 : LB) : Nat → LB
  | 0 => b0
  | 1 => b0 ++ txtP p
  | _ => b0 ++ txtP p ++ txtP p2
def OwB (B : Nat) (w : World) (A : Option Addr) (n c : Nat) (bs : LB) : Prop := w.ownsRow B 5 1 (.slice A n c) n (bv bs)
theorem OwB.rd {B : Nat} {w : World} {A : Option Addr} {n c : Nat} {bs : LB} (h : OwB B w A n c bs) : Rd w A n bs := Reads.of_own h
theorem OwB.below {B : Nat} {w w' : World} {A : Option Addr} {n c : Nat} {bs : LB} (h : OwB B w A n c bs) (hb : Below w.heap.size w w') : OwB B w' A n c bs := own_below h hb
theorem OwB.le {B : Nat} {w : World} {A : Option Addr} {n c : Nat} {bs : LB} (h : OwB B w A n c bs) : n ≤ c := by
  rcases h.2 with ⟨hv, h0⟩ | ⟨g, cap, cur, hv, hb, hh, hnc, hmx, hsz, htk⟩
  · subst h0; exact Nat.zero_le _
  · injection hv with e1 e2 e3; subst e3; exact hnc
theorem put_ow (n m : Nat) (w : World) (h1 : 1 ≤ m) (h2 : m ≤ 8) (hn : n < 18446744073709551616) : Calls Tryz.prog 68 #[.int .u64 n, .int .i64 m] w fun e w' => ∃ A c, e = .returned (.slice A m c) ∧ OwB w.heap.size w' A m c (be m n) ∧ Below w.heap.size w w' :=
  (put_yes n m w h1 h2 hn).mono fun e w' ⟨v, h1, h2, h3⟩ => by
    obtain ⟨A, c, rfl⟩ := own_slice h2
    exact ⟨A, c, h1, h2, h3⟩
theorem ixP (a b : ByteArray) (W : World) : (Instr.index 126 (.agg #[.string a, .string b]) (.int .i64 0)).run Tryz.prog W = .ok (.string a) W := by kernel_rfl
theorem ixQ (a b : ByteArray) (W : World) : (Instr.index 126 (.agg #[.string a, .string b]) (.int .i64 1)).run Tryz.prog W = .ok (.string b) W := by kernel_rfl
theorem put2 (n : Nat) (w : World) (hn : n < 18446744073709551616) : Calls Tryz.prog 68 #[.int .u64 (n : Int), .int .i64 2] w fun e w' => ∃ A c, e = .returned (.slice A 2 c) ∧ OwB w.heap.size w' A 2 c (be 2 n) ∧ Below w.heap.size w w' := put_ow n 2 w (by omega) (by omega) hn
theorem strc (p : LB) : Lib.strCells ⟨p.toArray⟩ = bv p := by simp [Lib.strCells, bv]
theorem two_bytes (W : World) (x y : Nat) (hx : x < 256) (hy : y < 256) : Rd (W.alloc (.cells #[.int .u8 (x : Int), .int .u8 (y : Int)] 5)) (some ⟨W.heap.size, 0, none⟩) 2 [UInt8.ofNat x, UInt8.ofNat y] := by
  refine ⟨rfl, fun _ => ⟨_, rfl, by simp, ?_⟩⟩
  intro j u hu
  rw [at_add, Nat.zero_add, (Blk.new W 5 #[.int .u8 (x : Int), .int .u8 (y : Int)]).cell j]
  have e1 : (UInt8.ofNat x).toNat = x := by simp; omega
  have e2 : (UInt8.ofNat y).toNat = y := by simp; omega
  simpa [bv, e1, e2] using hu
set_option maxRecDepth 100000 in
set_option maxHeartbeats 4000000 in
theorem enc_no (q op : Int) (p p2 d : LB) (al : Bool) (A : Option Addr) (n c : Nat) (hd : d.length = n) (w : World) (hS : Std w) (hV : validP ⟨q, op, p, p2, d, al⟩ = false) :
    Calls Tryz.prog 67 #[Rec.v ⟨q, op, p, p2, d, al⟩ A n c] w fun e w' => e = .returned (.tuple #[.slice none 0 0, .int .i64 2]) ∧ Below w.heap.size w w' := by
  have hb := (Below.refl w.heap.size w).alloc (Nat.le_refl _) (.cells (Rec.cs ⟨q, op, p, p2, d, al⟩ A n c) 28)
  have HB := hide hb
  have HS := hide (hS.below hb)
  have XV := hide (fun W => validate_any q op p p2 d al A n c hd W)
  rw [hV] at XV
  clear hb hS hV hd
  unfold Rec.v Rec.cs at *
  dsimp only at *
  go_enter Tryz.func67, Tryz.ntmps67
  go_wp2_with fail
  refine (XV.out _).mono ?_
  rintro e w1 ⟨s, rfl, hb⟩
  have HB1 := hide (below_more HB.out (Nat.le_refl _) hb)
  have HS1 := hide (HS.out.below hb)
  clear hb XV
  go_wp2_with fail
  refine (code_hit s _ HS1.out).mono ?_
  rintro e w2 ⟨rfl, hb⟩
  have HB2 := hide (below_more HB1.out (Nat.le_refl _) hb)
  clear hb
  go_wp2_with fail
  refine bodyPost_ret (v := .tuple #[.slice none 0 0, .int .i64 2]) (by simp only [results, Tryz.results67]; go_simp) rfl ⟨rfl, HB2.out⟩
set_option maxRecDepth 100000 in
set_option maxHeartbeats 8000000 in
theorem enc_yes (m x : Nat) (p p2 d : LB) (al : Bool) (A : Option Addr) (n c : Nat) (hd : d.length = n) (w : World) (hS : Std w) (hR : Rd w A n d) (hm : m ≤ 2147483647) (hx : x ≤ 14) (hp : p.length ≤ 256) (hp2 : p2.length ≤ 256) (hn : n ≤ 32) (hV : validP ⟨(m : Int), (x : Int), p, p2, d, al⟩ = true) :
    Calls Tryz.prog 67 #[Rec.v ⟨(m : Int), (x : Int), p, p2, d, al⟩ A n c] w fun e w' => ∃ A' n' c', e = .returned (.tuple #[.slice A' n' c', .int .i64 0]) ∧ Rd w' A' n' (encP ⟨(m : Int), (x : Int), p, p2, d, al⟩) ∧ n' ≤ c' ∧ n' ≤ 1000 ∧ Below w.heap.size w w' := by
  obtain ⟨i0, hi, hz0, hz1, hz2⟩ := info_parts infoU8
  have hb := (Below.refl w.heap.size w).alloc (Nat.le_refl _) (.cells (Rec.cs ⟨(m : Int), (x : Int), p, p2, d, al⟩ A n c) 28)
  have HB := hide hb
  have HS := hide (hS.below hb)
  have HR := hide (rb hR hb)
  have HR0 := hide hR
  have HX := hide (Blk.new w 28 (Rec.cs ⟨(m : Int), (x : Int), p, p2, d, al⟩ A n c))
  have XV := hide (fun W => validate_any (m : Int) (x : Int) p p2 d al A n c hd W)
  rw [hV] at XV
  have HE := hide (enc_shape ⟨(m : Int), (x : Int), p, p2, d, al⟩)
  dsimp only at HE
  rw [Int.toNat_natCast, Int.toNat_natCast] at HE
  clear hb hS hV hR
  obtain ⟨R, hRe⟩ : ∃ R, encP ⟨(m : Int), (x : Int), p, p2, d, al⟩ = R := ⟨_, rfl⟩
  rw [hRe] at HE ⊢
  clear hRe
  have wm : IntKind.u64.wrap (m : Int) = (m : Int) := by simp [IntKind.wrap, IntKind.bits, IntKind.signed]; omega
  have wx : IntKind.u8.wrap (x : Int) = (x : Int) := by simp [IntKind.wrap, IntKind.bits, IntKind.signed]; omega
  unfold Rec.v Rec.cs errV at *
  dsimp only at *
  go_enter Tryz.func67, Tryz.ntmps67
  go_wp2_with fail
  refine (XV.out _).mono ?_
  rintro e w1 ⟨s, rfl, hb⟩
  replace HX := hide (HX.out.below hb HX.out.lt)
  replace HB := hide (below_more HB.out (Nat.le_refl _) hb)
  replace HS := hide (HS.out.below hb)
  replace HR := hide (rb HR.out hb)
  clear hb XV
  go_wp2_with fail
  refine (code_nil _).mono ?_
  rintro e w2 ⟨rfl, hb⟩
  replace HX := hide (HX.out.below hb HX.out.lt)
  replace HB := hide (below_more HB.out (Nat.le_refl _) hb)
  replace HS := hide (HS.out.below hb)
  replace HR := hide (rb HR.out hb)
  clear hb
  have f0 := HX.out.cell 0
  have f1 := HX.out.cell 1
  have f5 := HX.out.cell 5
  have hx2 := HX.out.lt
  simp only [List.getElem?_toArray, List.getElem?_cons_succ, List.getElem?_cons_zero] at f0 f1 f5
  obtain ⟨y, hy, hya⟩ : ∃ y : Nat, y < 2 ∧ (if al = true then (1 : UInt8) else 0) = UInt8.ofNat y ∧ (al = true → y = 1) ∧ (al = false → y = 0) := by
    cases al
    · exact ⟨0, by omega, rfl, by simp, by simp⟩
    · exact ⟨1, by omega, rfl, by simp, by simp⟩
  obtain ⟨hya, hy1, hy0⟩ := hya
  rw [hya] at HE
  clear hya
  go_upto_if 16 with (fail)
  go_cut [5] (fun u5 wx => u5 = .int .u8 (y : Int) ∧ w2 = wx)
  case first =>
    cases al with
    | true =>
      obtain rfl := hy1 rfl
      go_wp2_with fail
      go_meet
      exact ⟨rfl, rfl⟩
    | false =>
      obtain rfl := hy0 rfl
      go_wp2_with fail
      go_meet
      exact ⟨rfl, rfl⟩
  case rest =>
    obtain ⟨rfl, rfl⟩ := hcut
    clear hy1 hy0
    go_upto_region 7 with (fail)
    go_cut [6] (fun u6 wx => ∃ A5 c5, u6 = .slice A5 6 c5 ∧ Hid (OwB w.heap.size wx A5 6 c5 (be 4 m ++ [UInt8.ofNat x, UInt8.ofNat y])) ∧ Hid (Below w.heap.size w wx) ∧ Hid (Blk wx w.heap.size 28 #[.int .i64 (m : Int), .int .i64 (x : Int), .string ⟨p.toArray⟩, .string ⟨p2.toArray⟩, .slice A n c, .bool al]))
    case first =>
      refine wp_region_M (fun V => V.cell? ⟨w.heap.size, 0, none⟩ = some (.int .i64 (m : Int)) ∧ V.cell? ⟨w.heap.size, 1, none⟩ = some (.int .i64 (x : Int))) 10 rfl ⟨f0, f1⟩ (fun hHeld => ?_)
      refine wpAnyM_take (i := 0) (v := ?_) rfl rfl (by kernel_rfl) (fun _ _ _ h => h) (Or.inl ⟨by rfl, ?_⟩) (by assumption) ?_
      rotate_left
      · (intro V hV; (try dsimp only at hV); go_simp; with_reducible rfl)
      try simp only [Act.put, List.setIfInBounds_toArray, List.set_cons_zero, List.set_cons_succ]
      refine wpAnyM_take (i := 1) (v := ?_) rfl rfl (by kernel_rfl) (fun _ _ _ h => h) (Or.inl ⟨by rfl, ?_⟩) (by assumption) ?_
      rotate_left
      · (intro V hV; (try dsimp only at hV); go_simp; with_reducible rfl)
      try simp only [Act.put, List.setIfInBounds_toArray, List.set_cons_zero, List.set_cons_succ]
      refine wpAnyM_take (i := 2) (v := ?_) rfl rfl (by kernel_rfl) (fun _ _ _ h => h) (Or.inl ⟨by rfl, ?_⟩) (by assumption) ?_
      rotate_left
      · (intro V hV; (try dsimp only at hV); go_simp; with_reducible rfl)
      try simp only [Act.put, List.setIfInBounds_toArray, List.set_cons_zero, List.set_cons_succ]
      refine wpAnyM_take (i := 4) (v := ?_) rfl rfl (by kernel_rfl) (fun _ _ _ h => h) (Or.inl ⟨by rfl, ?_⟩) (by assumption) ?_
      rotate_left
      · (intro V hV; (try dsimp only at hV); go_simp; with_reducible rfl)
      try simp only [Act.put, List.setIfInBounds_toArray, List.set_cons_zero, List.set_cons_succ]
      refine wpAnyM_take (i := 5) (v := ?_) rfl rfl (by kernel_rfl) (fun _ _ _ h => h) (Or.inl ⟨by rfl, ?_⟩) (by assumption) ?_
      rotate_left
      · (intro V hV; (try dsimp only at hV); go_simp; with_reducible rfl)
      try simp only [Act.put, List.setIfInBounds_toArray, List.set_cons_zero, List.set_cons_succ]
      refine wpAnyM_take (i := 6) (v := ?_) rfl rfl (by kernel_rfl) (fun _ _ _ h => h) (Or.inl ⟨by rfl, ?_⟩) (by assumption) ?_
      rotate_left
      · (intro V hV; (try dsimp only at hV); go_simp; with_reducible rfl)
      try simp only [Act.put, List.setIfInBounds_toArray, List.set_cons_zero, List.set_cons_succ]
      refine wpAnyM_take (i := 7) (v := ?_) rfl rfl (by kernel_rfl) (fun _ _ _ h => h) (Or.inl ⟨by rfl, ?_⟩) (by assumption) ?_
      rotate_left
      · (intro V hV; (try dsimp only at hV); go_simp; with_reducible rfl)
      try simp only [Act.put, List.setIfInBounds_toArray, List.set_cons_zero, List.set_cons_succ]
      refine wpAnyM_two (i := 3) (j := 8) (by kernel_rfl) rfl rfl rfl rfl (fun K hK => ?_) (fun K hK => ?_)
      · go_simp
        refine (put_ow m 4 _ (by omega) (by omega) (by omega)).mono ?_
        rintro e w3 ⟨A3, c3, rfl, hO, hb⟩
        have HO3 : Hid (OwB w.heap.size w3 A3 4 c3 (be 4 m)) := hide (own_more hO HB.out.size)
        have HB3 : Hid (Below w.heap.size w w3) := hide (below_more HB.out.drew (Nat.le_refl _) hb)
        have HX3 : Hid (Blk w3 w.heap.size 28 #[.int .i64 (m : Int), .int .i64 (x : Int), .string ⟨p.toArray⟩, .string ⟨p2.toArray⟩, .slice A n c, .bool al]) := hide (HX.out.drew.below hb HX.out.lt)
        have d0 := HX3.out.cell 0
        have d1 := HX3.out.cell 1
        simp only [List.getElem?_toArray, List.getElem?_cons_succ, List.getElem?_cons_zero] at d0 d1
        have HS3 : (fun V : World => V.cell? ⟨w.heap.size, 0, none⟩ = some (.int .i64 (m : Int)) ∧ V.cell? ⟨w.heap.size, 1, none⟩ = some (.int .i64 (x : Int))) w3 := ⟨d0, d1⟩
        refine hK.out _ _ (fun _ => HS3) ?_
        clear hK K hHeld hO hb HS3
        simp only [List.setIfInBounds_toArray]
        refine wpAnyM_step (i := 8) (by kernel_rfl) rfl rfl (fun K hK => ?_)
        go_simp
        have HX4 := hide (HX3.out.alloc (.cells #[.int .u8 (x : Int), .int .u8 (y : Int)] 5))
        have HB4 := hide (HB3.out.alloc HB3.out.size (.cells #[.int .u8 (x : Int), .int .u8 (y : Int)] 5))
        have HO4 : Hid (OwB w.heap.size (w3.alloc (.cells #[.int .u8 (x : Int), .int .u8 (y : Int)] 5)) A3 4 c3 (be 4 m)) := hide (World.ownsRow.alloc HO3.out _)
        have HR4 := hide (two_bytes w3 x y (by omega) (by omega))
        have e0 := HX4.out.cell 0
        have e1 := HX4.out.cell 1
        simp only [List.getElem?_toArray, List.getElem?_cons_succ, List.getElem?_cons_zero] at e0 e1
        refine hK.out _ _ (fun _ => ⟨e0, e1⟩) ?_
        clear hK K HX3 HB3 HO3 d0 d1 e0 e1
        simp only [List.setIfInBounds_toArray]
        refine wpAnyM_step (i := 9) (by kernel_rfl) rfl rfl (fun K hK => ?_)
        refine step_append_any _ rfl (.tmp 20) (.tmp 25) 22 rfl w.heap.size 5 i0 _ 1 1 Tryz.underlying22 hi hz0 hz1 hz2 rfl (by omega) (.slice A3 4 c3) 4 (bv (be 4 m)) rfl (by exact HO4.out) _ (some ⟨w3.heap.size, 0, none⟩) 2 2 (bv [UInt8.ofNat x, UInt8.ofNat y]) rfl (by exact HR4.out) (bv_one _) (by unfold maxLen; omega) (by omega) (by exact HB4.out.size) ?_
        intro v5 w5 hown5 hg5 hat5
        obtain ⟨A5, c5, rfl⟩ := own_slice hown5
        rw [← bv_append] at hown5
        have HO5 : Hid (OwB w.heap.size w5 A5 6 c5 (be 4 m ++ [UInt8.ofNat x, UInt8.ofNat y])) := hide hown5
        have HB5 : Hid (Below w.heap.size w w5) := hide (HB4.out.grown hg5 HB4.out.size (fun g hg => (World.ownsRow.lt HO4.out g hg).1))
        have HX5 : Hid (Blk w5 w.heap.size 28 #[.int .i64 (m : Int), .int .i64 (x : Int), .string ⟨p.toArray⟩, .string ⟨p2.toArray⟩, .slice A n c, .bool al]) := hide (HX4.out.grown hg5 (own_blk_ne HO4.out HX4.out (by decide)).symm)
        have d0 := HX5.out.cell 0
        have d1 := HX5.out.cell 1
        simp only [List.getElem?_toArray, List.getElem?_cons_succ, List.getElem?_cons_zero] at d0 d1
        refine hK.out _ _ (fun _ => ⟨d0, d1⟩) ?_
        clear hK K hown5 hg5 hat5 d0 d1
        simp only [List.setIfInBounds_toArray]
        refine wpAnyM_step (i := 10) (by kernel_rfl) rfl rfl (fun K hK => ?_)
        go_simp
        refine hK.out _ _ (fun h => absurd rfl h) ?_
        refine wpAnyM_done (by kernel_rfl) ?_ _
        clear hK K HX4 HO4 HR4 HB4
        go_wp2_with fail
        go_meet
        exact ⟨A5, c5, rfl, HO5, HB5, HX5⟩
      · go_simp
        have HXa : Hid (Blk (w2.drew.alloc (.cells #[.int .u8 (x : Int), .int .u8 (y : Int)] 5)) w.heap.size 28 #[.int .i64 (m : Int), .int .i64 (x : Int), .string ⟨p.toArray⟩, .string ⟨p2.toArray⟩, .slice A n c, .bool al]) := hide (HX.out.drew.alloc _)
        have HBa : Hid (Below w.heap.size w (w2.drew.alloc (.cells #[.int .u8 (x : Int), .int .u8 (y : Int)] 5))) := hide (HB.out.drew.alloc HB.out.size _)
        have HRa := hide (two_bytes w2.drew x y (by omega) (by omega))
        have d0 := HXa.out.cell 0
        have d1 := HXa.out.cell 1
        simp only [List.getElem?_toArray, List.getElem?_cons_succ, List.getElem?_cons_zero] at d0 d1
        refine hK.out _ _ (fun _ => ⟨d0, d1⟩) ?_
        clear hK K hHeld
        simp only [List.setIfInBounds_toArray]
        refine wpAnyM_step (i := 3) (by kernel_rfl) rfl rfl (fun K hK => ?_)
        go_simp
        refine (put_ow m 4 _ (by omega) (by omega) (by omega)).mono ?_
        rintro e w3 ⟨A3, c3, rfl, hO, hb⟩
        have HO4 : Hid (OwB w.heap.size w3 A3 4 c3 (be 4 m)) := hide (own_more hO HBa.out.size)
        have HB4 : Hid (Below w.heap.size w w3) := hide (below_more HBa.out (Nat.le_refl _) hb)
        have HX4 : Hid (Blk w3 w.heap.size 28 #[.int .i64 (m : Int), .int .i64 (x : Int), .string ⟨p.toArray⟩, .string ⟨p2.toArray⟩, .slice A n c, .bool al]) := hide (HXa.out.below hb HXa.out.lt)
        have HR4 := hide (rb HRa.out hb)
        have e0 := HX4.out.cell 0
        have e1 := HX4.out.cell 1
        simp only [List.getElem?_toArray, List.getElem?_cons_succ, List.getElem?_cons_zero] at e0 e1
        refine hK.out _ _ (fun _ => ⟨e0, e1⟩) ?_
        clear hK K hO hb HXa HBa HRa d0 d1 e0 e1
        simp only [List.setIfInBounds_toArray]
        refine wpAnyM_step (i := 9) (by kernel_rfl) rfl rfl (fun K hK => ?_)
        refine step_append_any _ rfl (.tmp 20) (.tmp 25) 22 rfl w.heap.size 5 i0 _ 1 1 Tryz.underlying22 hi hz0 hz1 hz2 rfl (by omega) (.slice A3 4 c3) 4 (bv (be 4 m)) rfl (by exact HO4.out) _ (some ⟨w2.drew.heap.size, 0, none⟩) 2 2 (bv [UInt8.ofNat x, UInt8.ofNat y]) rfl (by exact HR4.out) (bv_one _) (by unfold maxLen; omega) (by omega) (by exact HB4.out.size) ?_
        intro v5 w5 hown5 hg5 hat5
        obtain ⟨A5, c5, rfl⟩ := own_slice hown5
        rw [← bv_append] at hown5
        have HO5 : Hid (OwB w.heap.size w5 A5 6 c5 (be 4 m ++ [UInt8.ofNat x, UInt8.ofNat y])) := hide hown5
        have HB5 : Hid (Below w.heap.size w w5) := hide (HB4.out.grown hg5 HB4.out.size (fun g hg => (World.ownsRow.lt HO4.out g hg).1))
        have HX5 : Hid (Blk w5 w.heap.size 28 #[.int .i64 (m : Int), .int .i64 (x : Int), .string ⟨p.toArray⟩, .string ⟨p2.toArray⟩, .slice A n c, .bool al]) := hide (HX4.out.grown hg5 (own_blk_ne HO4.out HX4.out (by decide)).symm)
        have d0 := HX5.out.cell 0
        have d1 := HX5.out.cell 1
        simp only [List.getElem?_toArray, List.getElem?_cons_succ, List.getElem?_cons_zero] at d0 d1
        refine hK.out _ _ (fun _ => ⟨d0, d1⟩) ?_
        clear hK K hown5 hg5 hat5 d0 d1
        simp only [List.setIfInBounds_toArray]
        refine wpAnyM_step (i := 10) (by kernel_rfl) rfl rfl (fun K hK => ?_)
        go_simp
        refine hK.out _ _ (fun h => absurd rfl h) ?_
        refine wpAnyM_done (by kernel_rfl) ?_ _
        clear hK K HX4 HO4 HR4 HB4
        go_wp2_with fail
        go_meet
        exact ⟨A5, c5, rfl, HO5, HB5, HX5⟩
    case rest =>
      obtain ⟨A5, c5, rfl, HO5, HB5, HX5⟩ := hcut
      have f2 := HX5.out.cell 2
      have f3 := HX5.out.cell 3
      have hx5 := HX5.out.lt
      simp only [List.getElem?_toArray, List.getElem?_cons_succ, List.getElem?_cons_zero] at f2 f3
      clear HB HX HS HR f0 f1 f5 hx2
      obtain ⟨B0, hB0⟩ : ∃ b, be 4 m ++ [UInt8.ofNat x, UInt8.ofNat y] = b := ⟨_, rfl⟩
      rw [hB0] at HO5
      have HEB : Hid (R = preE B0 p p2 2 ++ d) := hide (by rw [HE.out, ← hB0]; simp [preE])
      clear hB0 HE
      go_wp2_with fail
      go_loopw [6, 32] (fun u6 u32 wx => ∃ (k : Nat) (A' : Option Addr) (n' c' : Nat), k ≤ 2 ∧ n' ≤ 6 + 258 * k ∧ u32 = .int .i64 (k : Int) ∧ u6 = .slice A' n' c' ∧ Hid (OwB w.heap.size wx A' n' c' (preE B0 p p2 k)) ∧ Hid (Below w.heap.size w wx) ∧ Hid (Blk wx w.heap.size 28 #[.int .i64 (m : Int), .int .i64 (x : Int), .string ⟨p.toArray⟩, .string ⟨p2.toArray⟩, .slice A n c, .bool al])) (fun _ u32 _ => 2 - (intOf u32).toNat)
      case atStart => exact ⟨0, A5, 6, c5, by omega, by omega, rfl, rfl, HO5, HB5, HX5⟩
      case round =>
        obtain ⟨k, A', n', c', hk, hn', rfl, rfl, HOx, HBx, HXx⟩ := hrel
        rcases (by omega : k = 0 ∨ k = 1 ∨ k = 2) with rfl | rfl | rfl
        · have HP := hide (put2 p.length wr (by omega))
          have wl : IntKind.u64.wrap (p.length : Int) = (p.length : Int) := by simp [IntKind.wrap, IntKind.bits, IntKind.signed]; omega
          have H1 : Hid (preE B0 p p2 1 = preE B0 p p2 0 ++ be 2 p.length ++ p) := hide (by simp [preE, txtP])
          have hpl : p.length ≤ 256 := by omega
          have x0 := ixP
          have x1 := ixQ
          go_wp2_with fail
          with_reducible refine HP.out.mono ?_
          rintro e w7 ⟨A7, c7, rfl, hO, hb⟩
          have HO7 := hide hO.rd
          have HOl := hide (HOx.out.below hb)
          have HB7 := hide (below_more HBx.out (Nat.le_refl _) hb)
          have HX7 := hide (HXx.out.below hb HXx.out.lt)
          have hs7 := HB7.out.size
          clear hO hb HP
          go_wp2_with (at_builtin; (refine wpList_append_any _ rfl (.tmp 35) (.tmp 39) 22 rfl w.heap.size 5 i0 _ 1 1 Tryz.underlying22 hi hz0 hz1 hz2 rfl (by omega) (.slice A' n' c') n' (bv (preE B0 p p2 0)) rfl (by exact HOl.out) _ A7 2 c7 (bv (be 2 p.length)) rfl (by exact HO7.out) (bv_one _) ?c1 ?c2 ?c3 ?_))
          case c1 => unfold maxLen; omega
          case c2 => omega
          case c3 => exact hs7
          intro v8 w8 hown8 hg8 hat8
          obtain ⟨A8, c8, rfl⟩ := own_slice hown8
          rw [← bv_append] at hown8
          have HO8 : Hid (OwB w.heap.size w8 A8 (n' + 2) c8 (preE B0 p p2 0 ++ be 2 p.length)) := hide hown8
          have HB8 : Hid (Below w.heap.size w w8) := hide (HB7.out.grown hg8 hs7 (fun g hg => (World.ownsRow.lt HOl.out g hg).1))
          have HX8 : Hid (Blk w8 w.heap.size 28 #[.int .i64 (m : Int), .int .i64 (x : Int), .string ⟨p.toArray⟩, .string ⟨p2.toArray⟩, .slice A n c, .bool al]) := hide (HX7.out.grown hg8 (own_blk_ne HOl.out HX7.out (by decide)).symm)
          have hs8 := HB8.out.size
          clear hown8 hg8 hat8 HO7 HOl HX7 HB7 hs7
          go_wp2_with (at_builtin; (refine Lib.wpList_append_own_string _ rfl (.tmp 41) (.tmp 42) 22 9 rfl w.heap.size 5 i0 Tryz.underlying22 Tryz.underlying9 hi hz0 hz1 hz2 (.slice A8 (n' + 2) c8) (n' + 2) (bv (preE B0 p p2 0 ++ be 2 p.length)) rfl (by exact HO8.out) ⟨p.toArray⟩ rfl ?d1 ?d2 ?d3 ?_))
          case d1 => show n' + 2 + p.length ≤ _; unfold maxLen; omega
          case d2 => show n' + 2 + p.length ≤ _; omega
          case d3 => exact hs8
          intro v9 w9 hown9 hg9 hat9
          obtain ⟨A9, c9, rfl⟩ := own_slice hown9
          rw [strc, ← bv_append] at hown9
          have HO9 : Hid (OwB w.heap.size w9 A9 (n' + 2 + p.length) c9 (preE B0 p p2 1)) := hide (by rw [H1.out]; exact hown9)
          have HB9 : Hid (Below w.heap.size w w9) := hide (HB8.out.grown hg9 hs8 (fun g hg => (World.ownsRow.lt HO8.out g hg).1))
          have HX9 : Hid (Blk w9 w.heap.size 28 #[.int .i64 (m : Int), .int .i64 (x : Int), .string ⟨p.toArray⟩, .string ⟨p2.toArray⟩, .slice A n c, .bool al]) := hide (HX8.out.grown hg9 (own_blk_ne HO8.out HX8.out (by decide)).symm)
          clear hown9 hg9 hat9 HO8 HB8 HX8 hs8 H1
          go_wp2_with fail
          go_roundw
          case rel => exact ⟨1, A9, n' + 2 + p.length, c9, by omega, by omega, by go_num, rfl, HO9, HB9, HX9⟩
          case measure => simp [intOf]
        · have HP := hide (put2 p2.length wr (by omega))
          have wl : IntKind.u64.wrap (p2.length : Int) = (p2.length : Int) := by simp [IntKind.wrap, IntKind.bits, IntKind.signed]; omega
          have H2 : Hid (preE B0 p p2 2 = preE B0 p p2 1 ++ be 2 p2.length ++ p2) := hide (by simp [preE, txtP])
          have hpl : p2.length ≤ 256 := by omega
          have x0 := ixP
          have x1 := ixQ
          go_wp2_with fail
          with_reducible refine HP.out.mono ?_
          rintro e w7 ⟨A7, c7, rfl, hO, hb⟩
          have HO7 := hide hO.rd
          have HOl := hide (HOx.out.below hb)
          have HB7 := hide (below_more HBx.out (Nat.le_refl _) hb)
          have HX7 := hide (HXx.out.below hb HXx.out.lt)
          have hs7 := HB7.out.size
          clear hO hb HP
          go_wp2_with (at_builtin; (refine wpList_append_any _ rfl (.tmp 35) (.tmp 39) 22 rfl w.heap.size 5 i0 _ 1 1 Tryz.underlying22 hi hz0 hz1 hz2 rfl (by omega) (.slice A' n' c') n' (bv (preE B0 p p2 1)) rfl (by exact HOl.out) _ A7 2 c7 (bv (be 2 p2.length)) rfl (by exact HO7.out) (bv_one _) ?c1 ?c2 ?c3 ?_))
          case c1 => unfold maxLen; omega
          case c2 => omega
          case c3 => exact hs7
          intro v8 w8 hown8 hg8 hat8
          obtain ⟨A8, c8, rfl⟩ := own_slice hown8
          rw [← bv_append] at hown8
          have HO8 : Hid (OwB w.heap.size w8 A8 (n' + 2) c8 (preE B0 p p2 1 ++ be 2 p2.length)) := hide hown8
          have HB8 : Hid (Below w.heap.size w w8) := hide (HB7.out.grown hg8 hs7 (fun g hg => (World.ownsRow.lt HOl.out g hg).1))
          have HX8 : Hid (Blk w8 w.heap.size 28 #[.int .i64 (m : Int), .int .i64 (x : Int), .string ⟨p.toArray⟩, .string ⟨p2.toArray⟩, .slice A n c, .bool al]) := hide (HX7.out.grown hg8 (own_blk_ne HOl.out HX7.out (by decide)).symm)
          have hs8 := HB8.out.size
          clear hown8 hg8 hat8 HO7 HOl HX7 HB7 hs7
          go_wp2_with (at_builtin; (refine Lib.wpList_append_own_string _ rfl (.tmp 41) (.tmp 42) 22 9 rfl w.heap.size 5 i0 Tryz.underlying22 Tryz.underlying9 hi hz0 hz1 hz2 (.slice A8 (n' + 2) c8) (n' + 2) (bv (preE B0 p p2 1 ++ be 2 p2.length)) rfl (by exact HO8.out) ⟨p2.toArray⟩ rfl ?d1 ?d2 ?d3 ?_))
          case d1 => show n' + 2 + p2.length ≤ _; unfold maxLen; omega
          case d2 => show n' + 2 + p2.length ≤ _; omega
          case d3 => exact hs8
          intro v9 w9 hown9 hg9 hat9
          obtain ⟨A9, c9, rfl⟩ := own_slice hown9
          rw [strc, ← bv_append] at hown9
          have HO9 : Hid (OwB w.heap.size w9 A9 (n' + 2 + p2.length) c9 (preE B0 p p2 2)) := hide (by rw [H2.out]; exact hown9)
          have HB9 : Hid (Below w.heap.size w w9) := hide (HB8.out.grown hg9 hs8 (fun g hg => (World.ownsRow.lt HO8.out g hg).1))
          have HX9 : Hid (Blk w9 w.heap.size 28 #[.int .i64 (m : Int), .int .i64 (x : Int), .string ⟨p.toArray⟩, .string ⟨p2.toArray⟩, .slice A n c, .bool al]) := hide (HX8.out.grown hg9 (own_blk_ne HO8.out HX8.out (by decide)).symm)
          clear hown9 hg9 hat9 HO8 HB8 HX8 hs8 H2
          go_wp2_with fail
          go_roundw
          case rel => exact ⟨2, A9, n' + 2 + p2.length, c9, by omega, by omega, by go_num, rfl, HO9, HB9, HX9⟩
          case measure => simp [intOf]
        · have g4 := HXx.out.cell 4
          have hxx := HXx.out.lt
          simp only [List.getElem?_toArray, List.getElem?_cons_succ, List.getElem?_cons_zero] at g4
          have HRx : Hid (Rd wr A n d) := hide (rb HR0.out HBx.out)
          have hsx := HBx.out.size
          go_wp2_with (at_builtin; (refine wpList_append_any _ rfl (.tmp 45) (.tmp 47) 22 rfl w.heap.size 5 i0 _ 1 1 Tryz.underlying22 hi hz0 hz1 hz2 rfl (by omega) (.slice A' n' c') n' (bv (preE B0 p p2 2)) rfl (by exact HOx.out) _ A n c (bv d) rfl (by exact HRx.out) (bv_one _) ?e1 ?e2 ?e3 ?_))
          case e1 => unfold maxLen; omega
          case e2 => omega
          case e3 => exact hsx
          intro v9 w9 hown9 hg9 hat9
          obtain ⟨A9, c9, rfl⟩ := own_slice hown9
          rw [← bv_append, ← HEB.out] at hown9
          have HO9 : Hid (OwB w.heap.size w9 A9 (n' + n) c9 R) := hide hown9
          have HB9 : Hid (Below w.heap.size w w9) := hide (HBx.out.grown hg9 hsx (fun g hg => (World.ownsRow.lt HOx.out g hg).1))
          clear hown9 hg9 hat9
          go_wp2_with fail
          refine bodyPost_ret (v := .tuple #[.slice A9 (n' + n) c9, .int .i64 0]) (by simp only [results, Tryz.results67]; go_simp) rfl ⟨A9, n' + n, c9, rfl, HO9.out.rd, HO9.out.le, by omega, HB9.out⟩
end Go.Proofs.YtbbobffedgcbhaaGreatDoor
