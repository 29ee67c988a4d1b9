/- The contract of the document's Line. -/
import Derived.Test.YtabbkhkkhphgdaaDoorRefRa
import Derived.BigQuiet
import Derived.Deep.QuietTactic
namespace Go.Proofs.YtabbkhkkhphgdaaDoor
open Go.RowKit
set_option linter.unusedVariables false
theorem catB (a b : LB) : ((⟨a.toArray⟩ : ByteArray) ++ ⟨b.toArray⟩) = ⟨(a ++ b).toArray⟩ := by
  apply ByteArray.ext
  simp
def lineS (a v wd p : LB) : LB := a ++ (32 :: v) ++ [32] ++ wd ++ [32] ++ p
theorem join4 (a v wd p : LB) : Lib.join [a, v, wd, p] [32] = lineS a v wd p := by simp [Lib.join_cons, Lib.joinTail, lineS]
theorem join5 (a v wd p y : LB) : Lib.join ([a, v, wd, p] ++ [y]) [32] = lineS a v wd p ++ [32] ++ y := by simp [Lib.join_cons, Lib.joinTail, lineS]
set_option maxRecDepth 100000 in
set_option maxHeartbeats 4000000 in
theorem rline_no (r : Rec) (A : Option Addr) (n c : Nat) (hd : r.dig.length = n) (w : World) (hV : validP r = false) :
    Calls Tryd.prog 17 #[Rec.v r A n c] w fun e w' => e = .returned (.string ⟨([] : LB).toArray⟩) ∧ Below w.heap.size w w' := by
  have XC := hide (fun W => rcheck_any r A n c hd W)
  rw [hV] at XC
  clear hV hd
  obtain ⟨q, op, p, p2, d, al⟩ := r
  have HB := hide ((Below.refl w.heap.size w).alloc (Nat.le_refl _) (.cells (Rec.cs ⟨q, op, p, p2, d, al⟩ A n c) 24))
  unfold Rec.v Rec.cs at *
  dsimp only at *
  go_enter Tryd.func17, Tryd.ntmps17
  go_wp2_with fail
  refine (XC.out _).mono ?_
  rintro e w1 ⟨rfl, hb⟩
  have HB1 := hide (below_more HB.out (Nat.le_refl _) hb)
  clear hb XC
  go_wp2_with fail
  go_ret
  exact ⟨rfl, HB1.out⟩
set_option maxRecDepth 100000 in
set_option maxHeartbeats 8000000 in
theorem rline_yes (m x : Nat) (p p2 d : LB) (al : Bool) (A : Option Addr) (n c : Nat) (hd : d.length = n) (w : World) (hR : Rd w A n d) (hm : m ≤ 2147483647) (hx : x ≤ 14) (hp : p.length ≤ 256) (hp2 : p2.length ≤ 256) (hn : n ≤ 32) (hV : validP ⟨(m : Int), (x : Int), p, p2, d, al⟩ = true) :
    Calls Tryd.prog 17 #[Rec.v ⟨(m : Int), (x : Int), p, p2, d, al⟩ A n c] w fun e w' => e = .returned (.string ⟨(Lib.join (lineL ⟨(m : Int), (x : Int), p, p2, d, al⟩) [32]).toArray⟩) ∧ Below w.heap.size w w' := by
  have hb := (Below.refl w.heap.size w).alloc (Nat.le_refl _) (.cells #[.int .i64 (m : Int), .int .i64 (x : Int), .string ⟨p.toArray⟩, .string ⟨p2.toArray⟩, .slice A n c, .bool al] 24)
  have HB := hide hb
  have HR := hide (rb hR hb)
  have HX := hide (Blk.new w 24 #[.int .i64 (m : Int), .int .i64 (x : Int), .string ⟨p.toArray⟩, .string ⟨p2.toArray⟩, .slice A n c, .bool al])
  have XC := hide (fun W => rcheck_any ⟨(m : Int), (x : Int), p, p2, d, al⟩ A n c hd W)
  rw [hV] at XC
  have hr64 : i64R (m : Int) := by unfold i64R; omega
  have XD := hide (fun W => rdec_any (m : Int) W hr64)
  have hw : wordP (x : Int) = wordL x := by unfold wordP; rw [if_neg (by omega)]; rfl
  have XW := hide (fun W => rword_any (x : Int) W)
  rw [hw] at XW
  have hla := itoa_len (m : Int) hr64
  have hlw := word_len x
  have hlv := verd_len al
  have HDL := hide hd
  have HE : Hid (lineL ⟨(m : Int), (x : Int), p, p2, d, al⟩ = [Lib.itoa (m : Int), verdP al, wordL x, p] ++ (if x = 14 then [p2] else if x = 7 then [hexL d] else [])) := hide (by
    unfold lineL
    dsimp only
    rw [Int.toNat_natCast]
    rcases (by omega : x = 14 ∨ x = 7 ∨ (x ≠ 14 ∧ x ≠ 7)) with rfl | rfl | ⟨h1, h2⟩
    · rfl
    · rfl
    · rw [if_neg (by omega), if_neg (by omega), if_neg h1, if_neg h2])
  obtain ⟨R, hRe⟩ : ∃ R, lineL ⟨(m : Int), (x : Int), p, p2, d, al⟩ = R := ⟨_, rfl⟩
  rw [hRe] at HE ⊢
  clear hb hV hR hRe hd hr64 hw
  generalize Lib.itoa (m : Int) = a at *
  generalize wordL x = wd at *
  obtain ⟨v, hv, hvt, hvf⟩ : ∃ v, verdP al = v ∧ (al = true → v = [97, 108, 108, 111, 119]) ∧ (al = false → v = [100, 101, 110, 121]) := by
    cases al
    · exact ⟨_, rfl, by simp, fun _ => rfl⟩
    · exact ⟨_, rfl, fun _ => rfl, by simp⟩
  rw [hv] at HE hlv
  clear hv
  obtain ⟨S1, hS1⟩ : ∃ S, a ++ (32 :: v) ++ [32] = S := ⟨_, rfl⟩
  have hl1 : S1.length ≤ 100 := by rw [← hS1]; simp; omega
  have HS1 : Hid ((⟨a.toArray⟩ : ByteArray) ++ ⟨(32 :: v ++ [32]).toArray⟩ = ⟨S1.toArray⟩) := hide (by rw [catB, ← hS1, List.append_assoc])
  obtain ⟨S2, hS2⟩ : ∃ S, S1 ++ wd ++ [32] ++ p = S := ⟨_, rfl⟩
  have hl2 : S2.length ≤ 1000 := by rw [← hS2]; simp; omega
  have HS2 : Hid ((((⟨S1.toArray⟩ : ByteArray) ++ ⟨wd.toArray⟩) ++ ⟨#[32]⟩) ++ ⟨p.toArray⟩ = ⟨S2.toArray⟩) := hide (by rw [catB, show (⟨#[32]⟩ : ByteArray) = ⟨([32] : LB).toArray⟩ from rfl, catB, catB, hS2])
  have HLS : Hid (lineS a v wd p = S2) := hide (by rw [← hS2, ← hS1]; rfl)
  clear hS1 hS2
  unfold Rec.v at *
  dsimp only at *
  go_enter Tryd.func17, Tryd.ntmps17
  go_wp2_with fail
  refine (XC.out _).mono ?_
  rintro e w2 ⟨rfl, hb⟩
  replace HX := hide (HX.out.below hb HX.out.lt)
  replace HB := hide (below_more HB.out (Nat.le_refl _) hb)
  replace HR := hide (rb HR.out hb)
  clear hb XC
  obtain ⟨f0, f1, f2, f3, f4, f5⟩ := HX.out.six
  have hx2 := HX.out.lt
  have hza : ¬ 9223372036854775807 < a.length + 6 := by omega
  have hzb : ¬ 9223372036854775807 < a.length + 7 := by omega
  go_wp2_with fail
  refine (XD.out _).mono ?_
  rintro e w3 ⟨rfl, rfl⟩
  go_upto_if 12 with (fail)
  go_cut [3] (fun u3 wx => u3 = .string ⟨S1.toArray⟩ ∧ w2 = wx)
  case first =>
    cases al with
    | true =>
      obtain rfl := hvt rfl
      go_wp2_with fail
      refine (XD.out _).mono ?_
      rintro e w4 ⟨rfl, rfl⟩
      go_wp2_with fail
      go_meet
      exact ⟨congrArg Value.string HS1.out, rfl⟩
    | false =>
      obtain rfl := hvf rfl
      go_wp2_with fail
      go_meet
      exact ⟨congrArg Value.string HS1.out, rfl⟩
  case rest =>
    obtain ⟨rfl, rfl⟩ := hcut
    clear hvt hvf hza hzb XD
    have hzc : ¬ 9223372036854775807 < S1.length + wd.length := by omega
    have hzd : ¬ 9223372036854775807 < S1.length + wd.length + 1 := by omega
    have hze : ¬ 9223372036854775807 < S1.length + wd.length + 1 + p.length := by omega
    go_upto_region 6 with (fail)
    go_cut [3] (fun u3 wx => u3 = .string ⟨S2.toArray⟩ ∧ Hid (Below w2.heap.size w2 wx))
    case first =>
      go_quiet ((go_at_call 19; exact quiet_left (XW.out _)))
      go_wp2_with fail
      go_meet
      exact ⟨congrArg Value.string HS2.out, hide (below_drewN (Below.refl w2.heap.size w2) _)⟩
    case rest =>
      obtain ⟨rfl, HBd⟩ := hcut
      replace HX := hide (HX.out.below HBd.out HX.out.lt)
      replace HB := hide (below_more HB.out (Nat.le_refl _) HBd.out)
      replace HR := hide (rb HR.out HBd.out)
      clear hzc hzd hze XW f0 f1 f2 f3 f4 f5 hx2 HBd
      obtain ⟨f0, f1, f2, f3, f4, f5⟩ := HX.out.six
      have hx2 := HX.out.lt
      rcases (by omega : x = 14 ∨ x = 7 ∨ (x ≠ 14 ∧ x ≠ 7)) with rfl | rfl | ⟨hx14, hx7⟩
      · have HE2 : Hid (Lib.join R [32] = S2 ++ [32] ++ p2) := hide (by rw [HE.out, if_pos rfl, join5, HLS.out])
        have HC : Hid (((⟨S2.toArray⟩ : ByteArray) ++ ⟨#[32]⟩) ++ ⟨p2.toArray⟩ = ⟨(S2 ++ [32] ++ p2).toArray⟩) := hide (by rw [show (⟨#[32]⟩ : ByteArray) = ⟨([32] : LB).toArray⟩ from rfl, catB, catB])
        have hzf : ¬ 9223372036854775807 < S2.length + 1 := by omega
        have hzg : ¬ 9223372036854775807 < S2.length + 1 + p2.length := by omega
        go_wp2_with fail
        go_ret
        exact ⟨by rw [HE2.out, ← HC.out]; rfl, HB.out⟩
      · have HE2 : Hid (Lib.join R [32] = S2 ++ [32] ++ hexL d) := hide (by rw [HE.out, if_neg (by omega), if_pos rfl, join5, HLS.out])
        have hhl : (hexL d).length ≤ 100 := by have := hexL_length d; have := HDL.out; omega
        have XH := hide (fun W (h : Rd W A n d) => rhex_any A n c d W h (by omega))
        obtain ⟨y, hy⟩ : ∃ y, hexL d = y := ⟨_, rfl⟩
        rw [hy] at hhl HE2 XH
        clear hy
        have HC : Hid (((⟨S2.toArray⟩ : ByteArray) ++ ⟨#[32]⟩) ++ ⟨y.toArray⟩ = ⟨(S2 ++ [32] ++ y).toArray⟩) := hide (by rw [show (⟨#[32]⟩ : ByteArray) = ⟨([32] : LB).toArray⟩ from rfl, catB, catB])
        have hzf : ¬ 9223372036854775807 < S2.length + 1 := by omega
        have hzg : ¬ 9223372036854775807 < S2.length + 1 + y.length := by omega
        go_wp2_with fail
        refine (XH.out _ HR.out).mono ?_
        rintro e w7 ⟨rfl, hb⟩
        have HBE := hide (below_more HB.out (Nat.le_refl _) hb)
        clear hb
        go_wp2_with fail
        go_ret
        exact ⟨by rw [HE2.out, ← HC.out]; rfl, HBE.out⟩
      · have HE2 : Hid (Lib.join R [32] = S2) := hide (by rw [HE.out, if_neg hx14, if_neg hx7, List.append_nil, join4, HLS.out])
        have hxa : ((x : Int) == 14) = false := beq_eq_false_iff_ne.2 (by omega)
        have hxb : ((x : Int) == 7) = false := beq_eq_false_iff_ne.2 (by omega)
        go_wp2_with fail
        go_ret
        exact ⟨by rw [HE2.out]; rfl, HB.out⟩
theorem rline_any (r : Rec) (A : Option Addr) (n c : Nat) (hd : r.dig.length = n) (w : World) (hR : Rd w A n r.dig) :
    Calls Tryd.prog 17 #[Rec.v r A n c] w fun e w' => e = .returned (.string ⟨(lineP r).toArray⟩) ∧ Below w.heap.size w w' := by
  cases hV : validP r with
  | false =>
    rw [show lineP r = [] by unfold lineP; rw [hV]; rfl]
    exact rline_no r A n c hd w hV
  | true =>
    rw [show lineP r = Lib.join (lineL r) [32] by unfold lineP; rw [hV]; rfl]
    obtain ⟨⟨h1, h2⟩, hg, hp, hp2, hdl⟩ := valid_parts hV
    have hl := gov_le hg
    obtain ⟨q, op, p, g, d, al⟩ := r
    dsimp only at *
    obtain ⟨m, rfl⟩ : ∃ m : Nat, q = m := ⟨q.toNat, by omega⟩
    obtain ⟨x, rfl⟩ : ∃ x : Nat, op = x := ⟨op.toNat, by omega⟩
    exact rline_yes m x p g d al A n c hd w hR (by omega) (by omega) hp hp2 (by omega) hV
end Go.Proofs.YtabbkhkkhphgdaaDoor
