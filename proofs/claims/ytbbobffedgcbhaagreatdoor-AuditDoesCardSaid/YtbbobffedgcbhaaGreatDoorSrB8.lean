/- The reference's contract: Block. -/
import Derived.Test.YtbbobffedgcbhaaGreatDoorSrA8
import Derived.Test.YtbbobffedgcbhaaGreatDoorSrP8
import Derived.BigRegion
namespace Go.Proofs.YtbbobffedgcbhaaGreatDoor
open Go.RowKit
set_option linter.unusedVariables false
/-- Eight words lie at the head of block g. -/
def Row8 (w : World) (g : Nat) (s : St) : Prop := ∀ (j x : Nat), s.list[j]? = some x → w.cell? ⟨g, j, none⟩ = some (.int .u32 (x : Int))
theorem Row8.below {w w' : World} {g B : Nat} {s : St} (h : Row8 w g s) (hb : Below B w w') (hg : g < B) : Row8 w' g s := fun j x hx => (hb.cell (p := ⟨g, j, none⟩) hg).trans (h j x hx)
theorem Row8.of_blk {w : World} {g t : Nat} {s : St} (h : Blk w g t (wv s.list).toArray) : Row8 w g s := fun j x hx => cellW h hx
theorem Row8.cells {w : World} {g : Nat} {s : St} (h : Row8 w g s) : w.cell? ⟨g, 0, none⟩ = some (.int .u32 (s.a : Nat)) ∧ w.cell? ⟨g, 1, none⟩ = some (.int .u32 (s.b : Nat)) ∧ w.cell? ⟨g, 2, none⟩ = some (.int .u32 (s.c : Nat)) ∧ w.cell? ⟨g, 3, none⟩ = some (.int .u32 (s.d : Nat)) ∧
    w.cell? ⟨g, 4, none⟩ = some (.int .u32 (s.e : Nat)) ∧ w.cell? ⟨g, 5, none⟩ = some (.int .u32 (s.f : Nat)) ∧ w.cell? ⟨g, 6, none⟩ = some (.int .u32 (s.g : Nat)) ∧ w.cell? ⟨g, 7, none⟩ = some (.int .u32 (s.h : Nat)) :=
  ⟨h 0 _ rfl, h 1 _ rfl, h 2 _ rfl, h 3 _ rfl, h 4 _ rfl, h 5 _ rfl, h 6 _ rfl, h 7 _ rfl⟩
theorem sum5r (h b c k w : Nat) : (((((h + b) % 4294967296 + c) % 4294967296) + k) % 4294967296 + w) % 4294967296 = (h + b + c + k + w) % 4294967296 := by omega
theorem turn6 (x : Nat) (w : World) (hx : x < 4294967296) : Calls Tryz.prog 93 #[.int .u32 (x : Int), .int .u64 6] w fun e w' => e = .returned (.int .u32 (rotr 6 x : Nat)) ∧ w = w' := turned_any x 6 w hx (by omega) (by omega)
theorem turn11 (x : Nat) (w : World) (hx : x < 4294967296) : Calls Tryz.prog 93 #[.int .u32 (x : Int), .int .u64 11] w fun e w' => e = .returned (.int .u32 (rotr 11 x : Nat)) ∧ w = w' := turned_any x 11 w hx (by omega) (by omega)
theorem turn25 (x : Nat) (w : World) (hx : x < 4294967296) : Calls Tryz.prog 93 #[.int .u32 (x : Int), .int .u64 25] w fun e w' => e = .returned (.int .u32 (rotr 25 x : Nat)) ∧ w = w' := turned_any x 25 w hx (by omega) (by omega)
theorem turn2 (x : Nat) (w : World) (hx : x < 4294967296) : Calls Tryz.prog 93 #[.int .u32 (x : Int), .int .u64 2] w fun e w' => e = .returned (.int .u32 (rotr 2 x : Nat)) ∧ w = w' := turned_any x 2 w hx (by omega) (by omega)
theorem turn13 (x : Nat) (w : World) (hx : x < 4294967296) : Calls Tryz.prog 93 #[.int .u32 (x : Int), .int .u64 13] w fun e w' => e = .returned (.int .u32 (rotr 13 x : Nat)) ∧ w = w' := turned_any x 13 w hx (by omega) (by omega)
theorem turn22 (x : Nat) (w : World) (hx : x < 4294967296) : Calls Tryz.prog 93 #[.int .u32 (x : Int), .int .u64 22] w fun e w' => e = .returned (.int .u32 (rotr 22 x : Nat)) ∧ w = w' := turned_any x 22 w hx (by omega) (by omega)
theorem addW_comm (x y : Nat) : addW x y = addW y x := by unfold addW; rw [Nat.add_comm]
theorem St.add_comm (s v : St) : s.add v = v.add s := by simp only [St.add, addW_comm]
def RetB (w : World) (s : St) (e : Ending) (w' : World) : Prop :=
  ∃ g c, e = .returned (.tuple #[.slice (some ⟨g, 0, none⟩) 8 c, .int .i64 0]) ∧ w.heap.size ≤ g ∧ Blk w' g 143 (wv s.list).toArray ∧ Below w.heap.size w w'
set_option maxHeartbeats 1000000 in
theorem rblock_no (A B : Option Addr) (n c m d : Nat) (w : World) (h : n ≠ 8 ∨ m ≠ 64) :
    Calls Tryz.prog 85 #[.slice A n c, .slice B m d] w fun e w' => e = .returned (.tuple #[.slice none 0 0, .int .i64 2]) ∧ w = w' := by
  by_cases h8 : n = 8
  · subst h8
    have h64 : ((m : Int) != 64) = true := by rw [bne_iff_ne]; omega
    go_enter Tryz.func85, Tryz.ntmps85
    go_wp2
    go_ret2
    exact ⟨rfl, rfl⟩
  · have h64 : ((n : Int) != 8) = true := by rw [bne_iff_ne]; omega
    go_enter Tryz.func85, Tryz.ntmps85
    go_wp2
    go_ret2
    exact ⟨rfl, rfl⟩
set_option maxRecDepth 100000 in
set_option maxHeartbeats 8000000 in
theorem rblock_yes (A B : Option Addr) (c d : Nat) (s : St) (b : List UInt8) (w : World) (hs : Reads w w.heap.size 1 A 8 (wv s.list)) (hok : s.ok) (hb : Rd w B 64 b) (hd : 64 ≤ d) :
    Calls Tryz.prog 85 #[.slice A 8 c, .slice B 64 d] w (RetB w (comp s b)) := by
  obtain ⟨i0, hi, hz0, hz1, hz2⟩ := info_parts info39
  have HS := hide hs
  have HB := hide hb
  have hE : Hid ((w.alloc (.cells #[] 143)).ownsRow w.heap.size 143 1 (.slice (some ⟨w.heap.size, 0, none⟩) 0 0) 0 []) :=
    hide ⟨rfl, .inr ⟨w.heap.size, 0, #[], rfl, Nat.le_refl _, Blk.new _ _ _, Nat.le_refl _, Nat.zero_le _, rfl, by simp⟩⟩
  have hrs := hide (Reads.alloc (o := .cells #[] 143) hs (Nat.le_refl _))
  clear hs hb
  go_enter Tryz.func85, Tryz.ntmps85
  go_wp2_with (at_builtin; (refine wpList_append_any _ rfl (.tmp 23) (.tmp 24) 139 rfl w.heap.size 143 i0 _ 1 4 Tryz.underlying139 hi hz0 hz1 hz2 rfl (by omega) (.slice (some ⟨w.heap.size, 0, none⟩) 0 0) 0 [] rfl hE.out w.heap.size A 8 c (wv s.list) rfl hrs.out (wv_one _) (by unfold maxLen; omega) (by omega) (by simp) ?_))
  intro v2 w2 ho2 hg2 hat2
  have hbb2 : Below w.heap.size w w2 := (bl_alloc w (.cells #[] 143)).grown hg2 (by simp) (fun g hg => by simp [Value.ownBlock] at hg; omega)
  obtain ⟨g2, c2, hv2, hgb2, hgl2⟩ := ho2.form (by omega)
  subst hv2
  have HV2 : Hid (Row8 w2 g2 s) := hide fun j x hx => own_cell (ws := s.list) (n := 8) (by simpa using ho2) hx
  have HB2 := hide hbb2
  have hsz2 := hbb2.size
  clear ho2 hg2 hat2 hbb2 hE hrs
  go_wp2_with fail
  refine (spread_any B d b _ (HB.out.below HB2.out |>.more hsz2) hd).mono ?_
  rintro e w3 ⟨gw, cw, rfl, how, hbw⟩
  obtain ⟨W, hW⟩ : ∃ W, schedL b 64 = W := ⟨_, rfl⟩
  have hWl : W.length = 64 := by rw [← hW]; exact schedL_length b 64
  have HWk : Hid (∀ t, W.getD t 0 < 4294967296) := hide (by rw [← hW]; exact schedK_lt b 64)
  have HWe := hide hW
  rw [hW, hWl] at how ⊢
  have HOW := hide how
  have hgwl := (how.lt gw rfl).2
  have HWl := hide hWl
  have hsz3 := hbw.size
  have HV3 := hide (HV2.out.below hbw hgl2)
  have HB3 := hide (below_more HB2.out (Nat.le_refl _) hbw)
  clear hW hWl how hbw HV2
  go_wp2_with fail
  refine (rkeys_any _).mono ?_
  rintro e w4 ⟨rfl, rfl⟩
  have HV4 : Hid (Row8 (w3.alloc (.cells (wv keysL).toArray 143)) g2 s) := hide (HV3.out.below (bl_alloc w3 _) (by omega))
  have HKc : Hid (∀ k, k < 64 → (w3.alloc (.cells (wv keysL).toArray 143)).cell? ⟨w3.heap.size, k, none⟩ = some (.int .u32 (keysL.getD k 0 : Nat))) := hide fun k hk => by
    rw [(Blk.new w3 143 (wv keysL).toArray).cell k]
    have : k < keysL.length := by rw [keysL_len]; exact hk
    simp [wv, List.getD_eq_getElem?_getD, List.getElem?_eq_getElem this]
  have HWc : Hid (∀ k, k < 64 → (w3.alloc (.cells (wv keysL).toArray 143)).cell? ⟨gw, k, none⟩ = some (.int .u32 (W.getD k 0 : Nat))) := hide fun k hk => by
    rw [World.cell?_alloc_lt w3 _ ⟨gw, k, none⟩ hgwl]
    have : k < W.length := by rw [HWl.out]; exact hk
    exact own_cell HOW.out (by rw [List.getD_eq_getElem?_getD, List.getElem?_eq_getElem this]; rfl)
  have HB4 : Hid (Below w.heap.size w (w3.alloc (.cells (wv keysL).toArray 143))) := hide (HB3.out.alloc HB3.out.size _)
  have hg3 : g2 < w3.heap.size + 1 := by omega
  have hgw3 : gw < w3.heap.size + 1 := by omega
  have hsz4 : (w3.alloc (.cells (wv keysL).toArray 143)).heap.size = w3.heap.size + 1 := by simp
  obtain ⟨w4, hw4⟩ : ∃ w4, w3.alloc (.cells (wv keysL).toArray 143) = w4 := ⟨_, rfl⟩
  rw [hw4] at HV4 HKc HWc HB4 hsz4 ⊢
  have HSZ := hide hsz4
  have hwle : w.heap.size ≤ w3.heap.size + 1 := by have := HB4.out.size; omega
  clear hw4 hsz4 HV3
  go_wp2_with fail
  go_loopw [6, 9] (fun u6 u9 wx => ∃ (k g c : Nat) (r : St), k ≤ 64 ∧ u9 = .int .i64 k ∧ u6 = .slice (some ⟨g, 0, none⟩) 8 c ∧ r = rounds s W k ∧ Row8 wx g r ∧ (0 < k → w.heap.size ≤ g ∧ Blk wx g 143 (wv r.list).toArray) ∧ g < wx.heap.size ∧ Below (w3.heap.size + 1) w4 wx) (fun _ i _ => 64 - (intOf i).toNat)
  case atStart => exact ⟨0, g2, c2, s, Nat.zero_le _, rfl, rfl, rfl, HV4.out, fun h => absurd h (by omega), by rw [HSZ.out]; exact hg3, Below.refl _ _⟩
  case round =>
    obtain ⟨k, g, cg, ⟨a, b', c', d', e, f, g', h⟩, hk, rfl, rfl, hr, hrow, hblk, hgl, hbe⟩ := hrel
    have hrok : St.ok ⟨a, b', c', d', e, f, g', h⟩ := by rw [hr]; exact rounds_ok hok W k
    rw [St.ok8] at hrok
    have HR := hide hr
    have HROW := hide hrow
    have HBLK := hide hblk
    have HBE := hide hbe
    clear hr hrow hblk hbe
    obtain ⟨la, lb, lc, ld, le, lf, lg, lh⟩ := hrok
    dsimp only at la lb lc ld le lf lg lh
    by_cases hk64 : k < 64
    · obtain ⟨kt, hkt⟩ : ∃ x, keysL.getD k 0 = x := ⟨_, rfl⟩
      obtain ⟨wt, hwt⟩ : ∃ x, W.getD k 0 = x := ⟨_, rfl⟩
      have lkt : kt < 4294967296 := by rw [← hkt]; exact keysL_lt k
      have lwt : wt < 4294967296 := by rw [← hwt]; exact HWk.out k
      have ck : wr.cell? ⟨w3.heap.size, k, none⟩ = some (.int .u32 kt) := by rw [HBE.out.cell (p := ⟨w3.heap.size, k, none⟩) (Nat.lt_succ_self _), HKc.out k hk64, hkt]
      have cw : wr.cell? ⟨gw, k, none⟩ = some (.int .u32 wt) := by rw [HBE.out.cell (p := ⟨gw, k, none⟩) hgw3, HWc.out k hk64, hwt]
      obtain ⟨s0, s1, s2, s3, s4, s5, s6, s7⟩ := HROW.out.cells
      dsimp only at s0 s1 s2 s3 s4 s5 s6 s7
      have HKT := hide hkt
      have HWT := hide hwt
      have AC := hide (And.intro (And.intro s0 (And.intro s1 (And.intro s2 s3))) (And.intro (And.intro s4 (And.intro s5 (And.intro s6 s7))) (And.intro ck cw)))
      clear hkt hwt s0 s1 s2 s3 s4 s5 s6 s7 ck cw
      have d0 : (0 : Int) ≤ (k : Int) := by omega
      have d1 : (k : Int) < 64 := by omega
      have e1 : bits BinOp.xor IntKind.u32 (rotr 6 e : Nat) (rotr 11 e : Nat) = ((rotr 6 e ^^^ rotr 11 e : Nat) : Int) := xor32 _ _ (rotr_lt le) (rotr_lt le)
      have e2 : bits BinOp.xor IntKind.u32 ((rotr 6 e ^^^ rotr 11 e : Nat) : Int) (rotr 25 e : Nat) = (bs1 e : Nat) := xor32 _ _ (xor_lt32 (rotr_lt le) (rotr_lt le)) (rotr_lt le)
      have e3 : IntKind.u32.wrap ((h : Int) + (bs1 e : Nat)) = ((h + bs1 e) % 4294967296 : Nat) := wrap_add32 _ _
      have e4 : bits BinOp.xor IntKind.u32 4294967295 (e : Int) = ((4294967295 - e : Nat) : Int) := by
        rw [← not_nat e le]; exact xor32 4294967295 e (by decide) le
      have e5 : bits BinOp.and IntKind.u32 (e : Int) (f : Int) = ((e &&& f : Nat) : Int) := and32 _ _ le lf
      have e6 : bits BinOp.and IntKind.u32 ((4294967295 - e : Nat) : Int) (g' : Int) = (((4294967295 - e) &&& g' : Nat) : Int) := and32 _ _ (by omega) lg
      have e7 : bits BinOp.xor IntKind.u32 ((e &&& f : Nat) : Int) (((4294967295 - e) &&& g' : Nat) : Int) = (chW e f g' : Nat) := xor32 _ _ (and_lt32 le) (and_lt32 (by omega))
      generalize hne4 : 4294967295 - e = ne4 at e4 e6 e7
      clear hne4
      generalize hz1 : (h + bs1 e) % 4294967296 = z1 at e3
      have e8 : IntKind.u32.wrap ((z1 : Int) + (chW e f g' : Nat)) = ((z1 + chW e f g') % 4294967296 : Nat) := wrap_add32 _ _
      generalize hz2 : (z1 + chW e f g') % 4294967296 = z2 at e8
      have e9 : IntKind.u32.wrap ((z2 : Int) + (kt : Nat)) = ((z2 + kt) % 4294967296 : Nat) := wrap_add32 _ _
      generalize hz3 : (z2 + kt) % 4294967296 = z3 at e9
      have e10 : IntKind.u32.wrap ((z3 : Int) + (wt : Nat)) = ((z3 + wt) % 4294967296 : Nat) := wrap_add32 _ _
      obtain ⟨t1, ht1⟩ : ∃ t1, t1W e f g' h kt wt = t1 := ⟨_, rfl⟩
      have hz : (z3 + wt) % 4294967296 = t1 := by
        rw [← ht1, ← hz3, ← hz2, ← hz1, t1W]
        exact sum5r _ _ _ _ _
      rw [hz] at e10
      have HT1 := hide ht1
      clear ht1 hz hz1 hz2 hz3
      obtain ⟨⟨s0, s1, s2, s3⟩, ⟨s4, s5, s6, s7⟩, ck, cw⟩ := AC.out
      clear s1 s2 s3 s5 s6 s7 ck cw
      go_upto_region 8 with (fail)
      go_quiet (fail)
      clear s0 s4
      obtain ⟨⟨s0, s1, s2, s3⟩, ⟨s4, s5, s6, s7⟩, ck, cw⟩ := AC.out
      clear s0 s1 s2 s3 s4
      go_upto_region 9 with (fail)
      go_quiet ((go_at_call 93; first | with_reducible exact quiet_add_left (turn6 e _ le) | with_reducible exact quiet_left (turn6 e _ le) | with_reducible exact quiet_add_left (turn11 e _ le) | with_reducible exact quiet_left (turn11 e _ le) | with_reducible exact quiet_add_left (turn25 e _ le) | with_reducible exact quiet_left (turn25 e _ le)))
      all_goals
        clear e1 e2 e3 e4 e5 e6 e7 e8 e9 e10 s5 s6 s7 ck cw
        have e1 : bits BinOp.xor IntKind.u32 (rotr 2 a : Nat) (rotr 13 a : Nat) = ((rotr 2 a ^^^ rotr 13 a : Nat) : Int) := xor32 _ _ (rotr_lt la) (rotr_lt la)
        have e2 : bits BinOp.xor IntKind.u32 ((rotr 2 a ^^^ rotr 13 a : Nat) : Int) (rotr 22 a : Nat) = (bs0 a : Nat) := xor32 _ _ (xor_lt32 (rotr_lt la) (rotr_lt la)) (rotr_lt la)
        have e3 : bits BinOp.and IntKind.u32 (a : Int) (b' : Int) = ((a &&& b' : Nat) : Int) := and32 _ _ la lb
        have e4 : bits BinOp.and IntKind.u32 (a : Int) (c' : Int) = ((a &&& c' : Nat) : Int) := and32 _ _ la lc
        have e5 : bits BinOp.and IntKind.u32 (b' : Int) (c' : Int) = ((b' &&& c' : Nat) : Int) := and32 _ _ lb lc
        have e6 : bits BinOp.xor IntKind.u32 ((a &&& b' : Nat) : Int) ((a &&& c' : Nat) : Int) = ((a &&& b' ^^^ a &&& c' : Nat) : Int) := xor32 _ _ (and_lt32 la) (and_lt32 la)
        have e7 : bits BinOp.xor IntKind.u32 ((a &&& b' ^^^ a &&& c' : Nat) : Int) ((b' &&& c' : Nat) : Int) = (majW a b' c' : Nat) := xor32 _ _ (xor_lt32 (and_lt32 la) (and_lt32 la)) (and_lt32 lb)
        have e8 : IntKind.u32.wrap ((bs0 a : Nat) + ((majW a b' c' : Nat) : Int)) = (t2W a b' c' : Nat) := wrap_add32 _ _
        obtain ⟨⟨s0, s1, s2, s3⟩, ⟨s4, s5, s6, s7⟩, ck, cw⟩ := AC.out
        clear s0 s3 s4 s5 s6 s7 ck cw
        go_upto_region 10 with (fail)
        go_quiet ((go_at_call 93; first | with_reducible exact quiet_add_left (turn2 a _ la) | with_reducible exact quiet_left (turn2 a _ la) | with_reducible exact quiet_add_left (turn13 a _ la) | with_reducible exact quiet_left (turn13 a _ la) | with_reducible exact quiet_add_left (turn22 a _ la) | with_reducible exact quiet_left (turn22 a _ la)))
      all_goals
        clear e1 e2 e3 e4 e5 e6 e7 e8 s1 s2
        have e9 : IntKind.u32.wrap ((t1 : Int) + (t2W a b' c' : Nat)) = ((t1 + t2W a b' c') % 4294967296 : Nat) := wrap_add32 _ _
        have e10 : IntKind.u32.wrap ((d' : Int) + (t1 : Nat)) = ((d' + t1) % 4294967296 : Nat) := wrap_add32 _ _
        generalize hq1 : (d' + t1) % 4294967296 = q1 at e10
        generalize hq2 : (t1 + t2W a b' c') % 4294967296 = q2 at e9
        have HQ1 := hide hq1
        have HQ2 := hide hq2
        clear hq1 hq2
        obtain ⟨⟨s0, s1, s2, s3⟩, ⟨s4, s5, s6, s7⟩, ck, cw⟩ := AC.out
        clear s7 ck cw
        go_upto_region 11 with (fail)
        go_region_held3 (fun V => V.cell? ⟨g, 0, none⟩ = some (.int .u32 a) ∧ V.cell? ⟨g, 1, none⟩ = some (.int .u32 b') ∧ V.cell? ⟨g, 2, none⟩ = some (.int .u32 c') ∧ V.cell? ⟨g, 3, none⟩ = some (.int .u32 d') ∧ V.cell? ⟨g, 4, none⟩ = some (.int .u32 e) ∧ V.cell? ⟨g, 5, none⟩ = some (.int .u32 f) ∧ V.cell? ⟨g, 6, none⟩ = some (.int .u32 g')) (first | go_keep | trivial) (fail)
        clear s0 s1 s2 s3 s4 s5 s6 e9 e10
        go_wp2_with fail
        go_roundw
      case rel =>
        have T := HBE.out.alloc (o := .cells #[.int .u32 (q2 : Int), .int .u32 (a : Int), .int .u32 (b' : Int), .int .u32 (c' : Int), .int .u32 (q1 : Int), .int .u32 (e : Int), .int .u32 (f : Int), .int .u32 (g' : Int)] 143) (by have := HBE.out.size; rw [HSZ.out] at this; exact this)
        have hN := Blk.new wr 143 #[.int .u32 (q2 : Int), .int .u32 (a : Int), .int .u32 (b' : Int), .int .u32 (c' : Int), .int .u32 (q1 : Int), .int .u32 (e : Int), .int .u32 (f : Int), .int .u32 (g' : Int)]
        have hszw : w3.heap.size + 1 ≤ wr.heap.size := by have := HBE.out.size; rw [HSZ.out] at this; exact this
        refine ⟨k + 1, wr.heap.size, 8, ⟨q2, a, b', c', q1, e, f, g'⟩, by omega, by go_num, rfl, ?_, Row8.of_blk (t := 143) (by rw [st_cells]; exact hN), fun _ => ⟨by omega, by rw [st_cells]; exact hN⟩, hN.lt, ⟨T.os, T.tape, T.output, T.size, T.block⟩⟩
        rw [rounds, ← HR.out, HKT.out, HWT.out, St.step]
        simp only [HT1.out, HQ1.out, HQ2.out]
      case measure => simp [intOf]; omega
    · obtain rfl : k = 64 := by omega
      obtain ⟨hgw0, hblk⟩ := HBLK.out (by omega)
      have HBK := hide hblk
      obtain ⟨r, hrr⟩ : ∃ r, St.mk a b' c' d' e f g' h = r := ⟨_, rfl⟩
      rw [hrr] at HR HBK
      have HB5 : Hid (Below w.heap.size w wr) := hide (HB4.out.trans (HBE.out.mono hwle))
      obtain ⟨ad, rfl, hadl, hadc⟩ := HS.out.2 (by omega)
      have HAD := hide hadc
      clear hk hk64 hblk hadc HS HROW HBLK HBE hrr la lb lc ld le lf lg lh
      go_wp2_with fail
      go_loopw [14] (fun i wx => ∃ k : Nat, k ≤ 8 ∧ i = .int .i64 k ∧ Blk wx g 143 (wv (mixL r.list s.list k)).toArray ∧ Below w.heap.size w wx) (fun i _ => 8 - (intOf i).toNat)
      case atStart => exact ⟨0, Nat.zero_le _, rfl, by rw [mixL_zero]; exact HBK.out, HB5.out⟩
      case round =>
        clear HBK HB5
        obtain ⟨k, hk, rfl, b1, b2⟩ := hrel
        have B1 := hide b1
        have B2 := hide b2
        clear b1 b2
        by_cases hk8 : k < 8
        · obtain ⟨y, hy⟩ : ∃ y, r.list[k]? = some y := ⟨_, List.getElem?_eq_getElem (by simp [St.list]; omega)⟩
          obtain ⟨x, hx⟩ : ∃ x, s.list[k]? = some x := ⟨_, List.getElem?_eq_getElem (by simp [St.list]; omega)⟩
          have cy : wr.cell? ⟨g, k, none⟩ = some (.int .u32 y) := cellW B1.out (by rw [mixL_get (p := r.list) (q := s.list) (by simp [St.list]; omega) rfl, hy])
          have fy : wr.frozen? ⟨g, k, none⟩ = false := B1.out.frozen k
          have cx : wr.cell? (ad.add k) = some (.int .u32 x) := (B2.out.cell (p := ad.add k) (by rw [block_of_add]; exact hadl)).trans (HAD.out k _ (by simp [hx]))
          have e1 : IntKind.u32.wrap ((y : Int) + (x : Nat)) = (addW y x : Nat) := wrap_add32 _ _
          have HM := hide (mixL_set hy hx rfl)
          clear hy hx
          have d0 : (0 : Int) ≤ (k : Int) := by omega
          have d1 : (k : Int) < 8 := by omega
          go_wp2_with fail
          go_region
          all_goals
            go_wp2_with fail
            clear cy fy cx e1
            go_roundw
          case rel =>
            have r' := B1.out.set_ k (.int .u32 (addW y x : Nat))
            have e : (wv (mixL r.list s.list k)).toArray.setIfInBounds k (.int .u32 (addW y x : Nat)) = (wv ((mixL r.list s.list k).set k (addW y x))).toArray := by simp [List.map_set]
            rw [e, HM.out] at r'
            have T := B2.out.setCell (p := ⟨g, k, none⟩) hgw0 (.int .u32 (addW y x : Nat))
            exact ⟨k + 1, by omega, by go_num, r', ⟨T.os, T.tape, T.output, T.size, T.block⟩⟩
          case measure => simp [intOf]; omega
        · obtain rfl : k = 8 := by omega
          clear hk hk8
          go_wp2_with fail
          go_ret2
          refine ⟨g, cg, rfl, hgw0, ?_, B2.out⟩
          have hh := B1.out
          have hv : mixL r.list s.list 8 = (comp s b).list := by
            rw [comp, HWe.out, ← HR.out]
            rw [show mixL r.list s.list 8 = (r.add s).list from mixL_all r s, St.add_comm]
          rw [hv] at hh
          exact hh
end Go.Proofs.YtbbobffedgcbhaaGreatDoor
