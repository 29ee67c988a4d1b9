/- heads of layer 29. -/
import Derived.Test.YtnongbbhpkmdjaaFldJ
namespace Go.Proofs.Ytnongbbhpkmdjaa
open Go.RowKit
set_option linter.unusedVariables false
def RdP (w : World) (A : Option Addr) (n : Nat) (l : List Pc) : Prop := Reads w w.heap.size 4 A n (pvs l)
theorem RdP.below {w w' : World} {A : Option Addr} {n : Nat} {l : List Pc} (h : RdP w A n l) (hb : Below w.heap.size w w') : RdP w' A n l := (Reads.below h hb).more hb.size
theorem Fo.more {B C : Nat} {w : World} {A : Option Addr} {n c : Nat} {fs : List Fd} {x : Option Nat} (h : Fo B w A n c fs x) (hC : C ≤ B) : Fo C w A n c fs x := by
  obtain ⟨vs, a, b, d⟩ := h
  exact ⟨vs, own_more a hC, b, d⟩
theorem RdP.one {w : World} {A : Option Addr} {p q : Pc} (h : RdP w A 2 [p, q]) : RdP w A 1 [p] := by
  refine ⟨rfl, fun _ => ?_⟩
  have h' : Reads w w.heap.size 4 A 2 (pvs [p, q]) := h
  obtain ⟨ad, e, hb, hc⟩ := h'.2 (by omega)
  refine ⟨ad, e, hb, fun j u hj => hc j u ?_⟩
  have hl : j < (pvs [p]).length := by
    rcases Nat.lt_or_ge j (pvs [p]).length with h | h
    · exact h
    · rw [List.getElem?_eq_none h] at hj; cases hj
  show (pvs ([p] ++ [q]))[j]? = _
  rw [pvs_append, List.getElem?_append_left hl]; exact hj
theorem split_n (l : List Pc) (ifs : LB) (fs : List Fd) (E : splitP ifs l = fs) (A : Option Addr) (n c : Nat) (w : World) (hR : RdP w A n l) (hn : n ≤ 10000) (hlen : (txl l).length ≤ 20000) (hif : ifs.length ≤ 1000) :
    Calls Try.prog 9 #[.slice A n c, .string ⟨ifs.toArray⟩] w fun e w' => ∃ A' c', e = .returned (.slice A' fs.length c') ∧ Fo w.heap.size w' A' fs.length c' fs none ∧ Below w.heap.size w w' := by
  subst E
  refine (split_any l ifs A n c w hR hn hlen hif).mono ?_
  rintro e w' ⟨A', n', c', rfl, hF, hb⟩
  obtain rfl := hF.len
  exact ⟨A', c', rfl, hF, hb⟩
theorem texts_n (B : Nat) (fs : List Fd) (ks : List LB) (E : fs.map txt = ks) (A : Option Addr) (n c : Nat) (w : World) (hF : Fo B w A n c fs none) (hB : B ≤ w.heap.size) (hn : n ≤ 100000) (hfl : ∀ f ∈ fs, f.length ≤ 1000000) (htl : ∀ f ∈ fs, (txt f).length ≤ 100000) :
    Calls Try.prog 22 #[.slice A n c] w fun e w' => ∃ A' c', e = .returned (.slice A' ks.length c') ∧ Ow w.heap.size w' A' ks.length c' ks ∧ Below w.heap.size w w' := by
  subst E
  refine (texts_any B fs A n c w hF hB hn hfl htl).mono ?_
  rintro e w' ⟨A', n', c', rfl, hF, hb⟩
  obtain rfl := hF.len
  exact ⟨A', c', rfl, hF, hb⟩
theorem pattern_n (l : List Pc) (t : LB) (E : patL l = t) (A : Option Addr) (n c : Nat) (w : World) (hR : RdP w A n l) (hn : n ≤ 1000000) (hlen : (txl l).length ≤ 50000) :
    Calls Try.prog 14 #[.slice A n c] w fun e w' => e = .returned (.string ⟨t.toArray⟩) ∧ Below w.heap.size w w' := by
  subst E; exact pattern_any l A n c w hR hn hlen
theorem special_n (l : List Pc) (b : Bool) (E : specialP (patL l) = b) (A : Option Addr) (n c : Nat) (w : World) (hR : RdP w A n l) (hn : n ≤ 1000000) (hlen : (txl l).length ≤ 50000) :
    Calls Try.prog 16 #[.slice A n c] w fun e w' => e = .returned (.bool b) ∧ Below w.heap.size w w' := by
  subst E; exact fspecial_any l A n c w hR hn hlen
theorem line_n (s ifs : LB) (n : Nat) (ks : List LB) (E : lineP ifs s n = ks) (w : World) (hs : s.length ≤ 20000) (hif : ifs.length ≤ 1000) (h1 : 1 ≤ n) (h2 : n ≤ 100) : Calls Try.prog 19 #[.string ⟨s.toArray⟩, .string ⟨ifs.toArray⟩, .int .i64 (n : Int)] w fun e w' => ∃ A c, e = .returned (.slice A n c) ∧ Ow w.heap.size w' A n c ks ∧ Below w.heap.size w w' := by
  subst E; exact line_yes s ifs n w hs hif h1 h2
theorem ha : splitP [32, 58] [⟨[32, 97, 32, 98, 58, 99], false, true, false⟩, ⟨[100, 32, 101], true, false, false⟩] = [[([97], false)], [([98], false)], [([99], false), ([100, 32, 101], true)]] := by kernel_rfl
theorem hb_ : splitP [58] [⟨[97, 58, 58, 98], false, true, false⟩] = [[([97], false)], [], [([98], false)]] := by kernel_rfl
theorem hc_ : splitP [32] [⟨[120], false, false, false⟩, ⟨[49], true, false, false⟩, ⟨[50], true, false, true⟩] = [[([120], false), ([49], true)], [([50], true)]] := by kernel_rfl
theorem hd_ : splitP [32] [⟨[], true, false, false⟩] = [[([], true)]] := by kernel_rfl
theorem ta : ([[([97], false)], [([98], false)], [([99], false), ([100, 32, 101], true)]] : List Fd).map txt = [[97], [98], [99, 100, 32, 101]] := by kernel_rfl
theorem tb : ([[([97], false)], [], [([98], false)]] : List Fd).map txt = [[97], [], [98]] := by kernel_rfl
theorem tc : ([[([120], false), ([49], true)], [([50], true)]] : List Fd).map txt = [[120, 49], [50]] := by kernel_rfl
theorem hp_ : patL [⟨[42], true, false, false⟩, ⟨[63], false, false, false⟩] = [92, 42, 63] := by kernel_rfl
theorem hs1 : specialP (patL [⟨[42], true, false, false⟩, ⟨[63], false, false, false⟩]) = true := by kernel_rfl
theorem hs2 : specialP (patL [⟨[42], true, false, false⟩]) = false := by kernel_rfl
theorem hl1 : lineP [32] [32, 97, 32, 98, 32, 99, 32] 2 = [[97], [98, 32, 99]] := by kernel_rfl
theorem hl2 : lineP [32] [97] 2 = [[97], []] := by kernel_rfl
set_option maxRecDepth 100000 in
set_option maxHeartbeats 8000000 in
theorem heads_any (w : World) : Calls Try.prog 8 #[] w fun e w' => e = .returned (.bool true) ∧ Below w.heap.size w w' := by
  have K := hide (Below.refl w.heap.size w)
  have hsl1 : ∀ (A : Option Addr) W, (Instr.slice 22 (.slice A 2 2) none (some (.int .i64 1)) none).run Try.prog W = .ok (.slice A 1 2) W := fun A W => by
    have hE : Try.prog.elem 22 = 35 := by simp [Program.elem, Try.underlying22]
    obtain ⟨i, hi, h1⟩ := Option.map_eq_some_iff.1 sizePc
    rw [run_slice_h W 22 A 2 2 (slice_ht Try.underlying22) .i64 1 (by omega) (by omega), hE]
    simp [sizeOf, typeInfo, hi, h1, Result.andThen, sliced, map_zero_]
  go_enter Try.func8, Try.ntmps8
  go_wp2_with fail
  obtain ⟨V1, hV⟩ : ∃ V, w.alloc (.cells #[.string ⟨#[32, 97, 32, 98, 58, 99]⟩, .bool false, .bool true, .bool false, .string ⟨#[100, 32, 101]⟩, .bool true, .bool false, .bool false] 35) = V := ⟨_, rfl⟩
  have hb : Below w.heap.size w V1 := by rw [← hV]; exact (Below.refl _ _).alloc (Nat.le_refl _) _
  have Ra : Hid (RdP V1 (some ⟨w.heap.size, 0, none⟩) 2 [⟨[32, 97, 32, 98, 58, 99], false, true, false⟩, ⟨[100, 32, 101], true, false, false⟩]) := hide (by rw [← hV]; exact lit_pc w [⟨[32, 97, 32, 98, 58, 99], false, true, false⟩, ⟨[100, 32, 101], true, false, false⟩])
  rw [hV]
  replace K := hide (below_more K.out (Nat.le_refl _) hb)
  clear hb hV
  refine (split_n [⟨[32, 97, 32, 98, 58, 99], false, true, false⟩, ⟨[100, 32, 101], true, false, false⟩] [32, 58] [[([97], false)], [([98], false)], [([99], false), ([100, 32, 101], true)]] ha _ 2 2 _ Ra.out (by decide) (by decide) (by decide)).mono ?_
  rintro e w2 ⟨Aa, ca, rfl, hF, hb⟩
  have Fa := hide (hF.more K.out.size)
  clear hF
  replace Ra : Hid _ := hide (Ra.out.below hb)
  replace K := hide (below_more K.out (Nat.le_refl _) hb)
  clear hb
  clear Ra
  go_wp2_with fail
  obtain ⟨V3, hV⟩ : ∃ V, w2.alloc (.cells #[.string ⟨#[97, 58, 58, 98]⟩, .bool false, .bool true, .bool false] 35) = V := ⟨_, rfl⟩
  have hb : Below w2.heap.size w2 V3 := by rw [← hV]; exact (Below.refl _ _).alloc (Nat.le_refl _) _
  have Rb : Hid (RdP V3 (some ⟨w2.heap.size, 0, none⟩) 1 [⟨[97, 58, 58, 98], false, true, false⟩]) := hide (by rw [← hV]; exact lit_pc w2 [⟨[97, 58, 58, 98], false, true, false⟩])
  rw [hV]
  replace Fa : Hid _ := hide (Fa.out.below hb)
  replace K := hide (below_more K.out (Nat.le_refl _) hb)
  clear hb hV
  refine (split_n [⟨[97, 58, 58, 98], false, true, false⟩] [58] [[([97], false)], [], [([98], false)]] hb_ _ 1 1 _ Rb.out (by decide) (by decide) (by decide)).mono ?_
  rintro e w4 ⟨Ab, cb, rfl, hF, hb⟩
  have Fb := hide (hF.more K.out.size)
  clear hF
  replace Fa : Hid _ := hide (Fa.out.below hb)
  replace Rb : Hid _ := hide (Rb.out.below hb)
  replace K := hide (below_more K.out (Nat.le_refl _) hb)
  clear hb
  clear Rb
  go_wp2_with fail
  obtain ⟨V5, hV⟩ : ∃ V, w4.alloc (.cells #[.string ⟨#[120]⟩, .bool false, .bool false, .bool false, .string ⟨#[49]⟩, .bool true, .bool false, .bool false, .string ⟨#[50]⟩, .bool true, .bool false, .bool true] 35) = V := ⟨_, rfl⟩
  have hb : Below w4.heap.size w4 V5 := by rw [← hV]; exact (Below.refl _ _).alloc (Nat.le_refl _) _
  have Rc : Hid (RdP V5 (some ⟨w4.heap.size, 0, none⟩) 3 [⟨[120], false, false, false⟩, ⟨[49], true, false, false⟩, ⟨[50], true, false, true⟩]) := hide (by rw [← hV]; exact lit_pc w4 [⟨[120], false, false, false⟩, ⟨[49], true, false, false⟩, ⟨[50], true, false, true⟩])
  rw [hV]
  replace Fa : Hid _ := hide (Fa.out.below hb)
  replace Fb : Hid _ := hide (Fb.out.below hb)
  replace K := hide (below_more K.out (Nat.le_refl _) hb)
  clear hb hV
  refine (split_n [⟨[120], false, false, false⟩, ⟨[49], true, false, false⟩, ⟨[50], true, false, true⟩] [32] [[([120], false), ([49], true)], [([50], true)]] hc_ _ 3 3 _ Rc.out (by decide) (by decide) (by decide)).mono ?_
  rintro e w6 ⟨Ac, cc, rfl, hF, hb⟩
  have Fc := hide (hF.more K.out.size)
  clear hF
  replace Fa : Hid _ := hide (Fa.out.below hb)
  replace Fb : Hid _ := hide (Fb.out.below hb)
  replace Rc : Hid _ := hide (Rc.out.below hb)
  replace K := hide (below_more K.out (Nat.le_refl _) hb)
  clear hb
  clear Rc
  go_wp2_with fail
  obtain ⟨V7, hV⟩ : ∃ V, w6.alloc (.cells #[.string ⟨#[]⟩, .bool true, .bool false, .bool false] 35) = V := ⟨_, rfl⟩
  have hb : Below w6.heap.size w6 V7 := by rw [← hV]; exact (Below.refl _ _).alloc (Nat.le_refl _) _
  have Rd : Hid (RdP V7 (some ⟨w6.heap.size, 0, none⟩) 1 [⟨[], true, false, false⟩]) := hide (by rw [← hV]; exact lit_pc w6 [⟨[], true, false, false⟩])
  rw [hV]
  replace Fa : Hid _ := hide (Fa.out.below hb)
  replace Fb : Hid _ := hide (Fb.out.below hb)
  replace Fc : Hid _ := hide (Fc.out.below hb)
  replace K := hide (below_more K.out (Nat.le_refl _) hb)
  clear hb hV
  refine (split_n [⟨[], true, false, false⟩] [32] [[([], true)]] hd_ _ 1 1 _ Rd.out (by decide) (by decide) (by decide)).mono ?_
  rintro e w8 ⟨Ad, cd, rfl, hF, hb⟩
  have Fd := hide (hF.more K.out.size)
  clear hF
  replace Fa : Hid _ := hide (Fa.out.below hb)
  replace Fb : Hid _ := hide (Fb.out.below hb)
  replace Fc : Hid _ := hide (Fc.out.below hb)
  replace Rd : Hid _ := hide (Rd.out.below hb)
  replace K := hide (below_more K.out (Nat.le_refl _) hb)
  clear hb
  clear Rd
  go_wp2_with fail
  obtain ⟨V9, hV⟩ : ∃ V, w8.alloc (.cells #[.string ⟨#[42]⟩, .bool true, .bool false, .bool false, .string ⟨#[63]⟩, .bool false, .bool false, .bool false] 35) = V := ⟨_, rfl⟩
  have hb : Below w8.heap.size w8 V9 := by rw [← hV]; exact (Below.refl _ _).alloc (Nat.le_refl _) _
  have Rp : Hid (RdP V9 (some ⟨w8.heap.size, 0, none⟩) 2 [⟨[42], true, false, false⟩, ⟨[63], false, false, false⟩]) := hide (by rw [← hV]; exact lit_pc w8 [⟨[42], true, false, false⟩, ⟨[63], false, false, false⟩])
  rw [hV]
  replace Fa : Hid _ := hide (Fa.out.below hb)
  replace Fb : Hid _ := hide (Fb.out.below hb)
  replace Fc : Hid _ := hide (Fc.out.below hb)
  replace Fd : Hid _ := hide (Fd.out.below hb)
  replace K := hide (below_more K.out (Nat.le_refl _) hb)
  clear hb hV
  refine (texts_n _ [[([97], false)], [([98], false)], [([99], false), ([100, 32, 101], true)]] [[97], [98], [99, 100, 32, 101]] ta Aa 3 ca _ Fa.out K.out.size (by decide) (by decide) (by decide)).mono ?_
  rintro e w10 ⟨Xa, xa, rfl, hF, hb⟩
  have Oa := hide hF
  clear hF
  replace Fa : Hid _ := hide (Fa.out.below hb)
  replace Fb : Hid _ := hide (Fb.out.below hb)
  replace Fc : Hid _ := hide (Fc.out.below hb)
  replace Fd : Hid _ := hide (Fd.out.below hb)
  replace Rp : Hid _ := hide (Rp.out.below hb)
  replace K := hide (below_more K.out (Nat.le_refl _) hb)
  clear hb
  go_wp2_with fail
  obtain ⟨V11, hV⟩ : ∃ V, w10.alloc (.cells #[.string ⟨#[97]⟩, .string ⟨#[98]⟩, .string ⟨#[99, 100, 32, 101]⟩] 9) = V := ⟨_, rfl⟩
  have hb : Below w10.heap.size w10 V11 := by rw [← hV]; exact (Below.refl _ _).alloc (Nat.le_refl _) _
  have Sa : Hid (Reads V11 V11.heap.size 1 (some ⟨w10.heap.size, 0, none⟩) 3 (svs [[97], [98], [99, 100, 32, 101]])) := hide (by rw [← hV]; exact lit_rd w10 [[97], [98], [99, 100, 32, 101]])
  rw [hV]
  replace Fa : Hid _ := hide (Fa.out.below hb)
  replace Fb : Hid _ := hide (Fb.out.below hb)
  replace Fc : Hid _ := hide (Fc.out.below hb)
  replace Fd : Hid _ := hide (Fd.out.below hb)
  replace Rp : Hid _ := hide (Rp.out.below hb)
  replace Oa : Hid _ := hide (Oa.out.below hb)
  replace K := hide (below_more K.out (Nat.le_refl _) hb)
  clear hb hV
  refine (texts_eq [[97], [98], [99, 100, 32, 101]] Xa _ 3 xa 3 3 _ Oa.out.rd Sa.out (by decide)).mono ?_
  rintro e w12 ⟨rfl, hb⟩
  replace Fa : Hid _ := hide (Fa.out.below hb)
  replace Fb : Hid _ := hide (Fb.out.below hb)
  replace Fc : Hid _ := hide (Fc.out.below hb)
  replace Fd : Hid _ := hide (Fd.out.below hb)
  replace Rp : Hid _ := hide (Rp.out.below hb)
  replace K := hide (below_more K.out (Nat.le_refl _) hb)
  clear hb
  go_wp2_with fail
  refine (texts_n _ [[([97], false)], [], [([98], false)]] [[97], [], [98]] tb Ab 3 cb _ Fb.out K.out.size (by decide) (by decide) (by decide)).mono ?_
  rintro e w13 ⟨Xb, xb, rfl, hF, hb⟩
  have Ob := hide hF
  clear hF
  replace Fa : Hid _ := hide (Fa.out.below hb)
  replace Fb : Hid _ := hide (Fb.out.below hb)
  replace Fc : Hid _ := hide (Fc.out.below hb)
  replace Fd : Hid _ := hide (Fd.out.below hb)
  replace Rp : Hid _ := hide (Rp.out.below hb)
  replace K := hide (below_more K.out (Nat.le_refl _) hb)
  clear hb
  go_wp2_with fail
  obtain ⟨V14, hV⟩ : ∃ V, w13.alloc (.cells #[.string ⟨#[97]⟩, .string ⟨#[]⟩, .string ⟨#[98]⟩] 9) = V := ⟨_, rfl⟩
  have hb : Below w13.heap.size w13 V14 := by rw [← hV]; exact (Below.refl _ _).alloc (Nat.le_refl _) _
  have Sb : Hid (Reads V14 V14.heap.size 1 (some ⟨w13.heap.size, 0, none⟩) 3 (svs [[97], [], [98]])) := hide (by rw [← hV]; exact lit_rd w13 [[97], [], [98]])
  rw [hV]
  replace Fa : Hid _ := hide (Fa.out.below hb)
  replace Fb : Hid _ := hide (Fb.out.below hb)
  replace Fc : Hid _ := hide (Fc.out.below hb)
  replace Fd : Hid _ := hide (Fd.out.below hb)
  replace Rp : Hid _ := hide (Rp.out.below hb)
  replace Ob : Hid _ := hide (Ob.out.below hb)
  replace K := hide (below_more K.out (Nat.le_refl _) hb)
  clear hb hV
  refine (texts_eq [[97], [], [98]] Xb _ 3 xb 3 3 _ Ob.out.rd Sb.out (by decide)).mono ?_
  rintro e w15 ⟨rfl, hb⟩
  replace Fa : Hid _ := hide (Fa.out.below hb)
  replace Fb : Hid _ := hide (Fb.out.below hb)
  replace Fc : Hid _ := hide (Fc.out.below hb)
  replace Fd : Hid _ := hide (Fd.out.below hb)
  replace Rp : Hid _ := hide (Rp.out.below hb)
  replace K := hide (below_more K.out (Nat.le_refl _) hb)
  clear hb
  go_wp2_with fail
  refine (texts_n _ [[([120], false), ([49], true)], [([50], true)]] [[120, 49], [50]] tc Ac 2 cc _ Fc.out K.out.size (by decide) (by decide) (by decide)).mono ?_
  rintro e w16 ⟨Xc, xc, rfl, hF, hb⟩
  have Oc := hide hF
  clear hF
  replace Fa : Hid _ := hide (Fa.out.below hb)
  replace Fb : Hid _ := hide (Fb.out.below hb)
  replace Fc : Hid _ := hide (Fc.out.below hb)
  replace Fd : Hid _ := hide (Fd.out.below hb)
  replace Rp : Hid _ := hide (Rp.out.below hb)
  replace K := hide (below_more K.out (Nat.le_refl _) hb)
  clear hb
  go_wp2_with fail
  obtain ⟨V17, hV⟩ : ∃ V, w16.alloc (.cells #[.string ⟨#[120, 49]⟩, .string ⟨#[50]⟩] 9) = V := ⟨_, rfl⟩
  have hb : Below w16.heap.size w16 V17 := by rw [← hV]; exact (Below.refl _ _).alloc (Nat.le_refl _) _
  have Sc : Hid (Reads V17 V17.heap.size 1 (some ⟨w16.heap.size, 0, none⟩) 2 (svs [[120, 49], [50]])) := hide (by rw [← hV]; exact lit_rd w16 [[120, 49], [50]])
  rw [hV]
  replace Fa : Hid _ := hide (Fa.out.below hb)
  replace Fb : Hid _ := hide (Fb.out.below hb)
  replace Fc : Hid _ := hide (Fc.out.below hb)
  replace Fd : Hid _ := hide (Fd.out.below hb)
  replace Rp : Hid _ := hide (Rp.out.below hb)
  replace Oc : Hid _ := hide (Oc.out.below hb)
  replace K := hide (below_more K.out (Nat.le_refl _) hb)
  clear hb hV
  refine (texts_eq [[120, 49], [50]] Xc _ 2 xc 2 2 _ Oc.out.rd Sc.out (by decide)).mono ?_
  rintro e w18 ⟨rfl, hb⟩
  replace Fa : Hid _ := hide (Fa.out.below hb)
  replace Fb : Hid _ := hide (Fb.out.below hb)
  replace Fc : Hid _ := hide (Fc.out.below hb)
  replace Fd : Hid _ := hide (Fd.out.below hb)
  replace Rp : Hid _ := hide (Rp.out.below hb)
  replace K := hide (below_more K.out (Nat.le_refl _) hb)
  clear hb
  go_wp2_with fail
  refine (pattern_n [⟨[42], true, false, false⟩, ⟨[63], false, false, false⟩] [92, 42, 63] hp_ _ 2 2 _ Rp.out (by decide) (by decide)).mono ?_
  rintro e w19 ⟨rfl, hb⟩
  replace Fa : Hid _ := hide (Fa.out.below hb)
  replace Fb : Hid _ := hide (Fb.out.below hb)
  replace Fc : Hid _ := hide (Fc.out.below hb)
  replace Fd : Hid _ := hide (Fd.out.below hb)
  replace Rp : Hid _ := hide (Rp.out.below hb)
  replace K := hide (below_more K.out (Nat.le_refl _) hb)
  clear hb
  go_wp2_with fail
  refine (special_n [⟨[42], true, false, false⟩, ⟨[63], false, false, false⟩] true hs1 _ 2 2 _ Rp.out (by decide) (by decide)).mono ?_
  rintro e w20 ⟨rfl, hb⟩
  replace Fa : Hid _ := hide (Fa.out.below hb)
  replace Fb : Hid _ := hide (Fb.out.below hb)
  replace Fc : Hid _ := hide (Fc.out.below hb)
  replace Fd : Hid _ := hide (Fd.out.below hb)
  replace Rp : Hid _ := hide (Rp.out.below hb)
  replace K := hide (below_more K.out (Nat.le_refl _) hb)
  clear hb
  go_wp2_with fail
  have R1 : Hid (RdP w20 _ 1 [⟨[42], true, false, false⟩]) := hide (Rp.out.one)
  refine (special_n [⟨[42], true, false, false⟩] false hs2 _ 1 2 _ R1.out (by decide) (by decide)).mono ?_
  rintro e w21 ⟨rfl, hb⟩
  replace Fa : Hid _ := hide (Fa.out.below hb)
  replace Fb : Hid _ := hide (Fb.out.below hb)
  replace Fc : Hid _ := hide (Fc.out.below hb)
  replace Fd : Hid _ := hide (Fd.out.below hb)
  replace Rp : Hid _ := hide (Rp.out.below hb)
  replace K := hide (below_more K.out (Nat.le_refl _) hb)
  clear hb
  go_wp2_with fail
  refine (line_n [32, 97, 32, 98, 32, 99, 32] [32] 2 [[97], [98, 32, 99]] hl1 _ (by decide) (by decide) (by decide) (by decide)).mono ?_
  rintro e w22 ⟨Xe, xe, rfl, hF, hb⟩
  have Oe := hide hF
  clear hF
  replace Fa : Hid _ := hide (Fa.out.below hb)
  replace Fb : Hid _ := hide (Fb.out.below hb)
  replace Fc : Hid _ := hide (Fc.out.below hb)
  replace Fd : Hid _ := hide (Fd.out.below hb)
  replace Rp : Hid _ := hide (Rp.out.below hb)
  replace K := hide (below_more K.out (Nat.le_refl _) hb)
  clear hb
  go_wp2_with fail
  obtain ⟨V23, hV⟩ : ∃ V, w22.alloc (.cells #[.string ⟨#[97]⟩, .string ⟨#[98, 32, 99]⟩] 9) = V := ⟨_, rfl⟩
  have hb : Below w22.heap.size w22 V23 := by rw [← hV]; exact (Below.refl _ _).alloc (Nat.le_refl _) _
  have Se : Hid (Reads V23 V23.heap.size 1 (some ⟨w22.heap.size, 0, none⟩) 2 (svs [[97], [98, 32, 99]])) := hide (by rw [← hV]; exact lit_rd w22 [[97], [98, 32, 99]])
  rw [hV]
  replace Fa : Hid _ := hide (Fa.out.below hb)
  replace Fb : Hid _ := hide (Fb.out.below hb)
  replace Fc : Hid _ := hide (Fc.out.below hb)
  replace Fd : Hid _ := hide (Fd.out.below hb)
  replace Rp : Hid _ := hide (Rp.out.below hb)
  replace Oe : Hid _ := hide (Oe.out.below hb)
  replace K := hide (below_more K.out (Nat.le_refl _) hb)
  clear hb hV
  refine (texts_eq [[97], [98, 32, 99]] Xe _ 2 xe 2 2 _ Oe.out.rd Se.out (by decide)).mono ?_
  rintro e w24 ⟨rfl, hb⟩
  replace Fa : Hid _ := hide (Fa.out.below hb)
  replace Fb : Hid _ := hide (Fb.out.below hb)
  replace Fc : Hid _ := hide (Fc.out.below hb)
  replace Fd : Hid _ := hide (Fd.out.below hb)
  replace Rp : Hid _ := hide (Rp.out.below hb)
  replace K := hide (below_more K.out (Nat.le_refl _) hb)
  clear hb
  go_wp2_with fail
  refine (line_n [97] [32] 2 [[97], []] hl2 _ (by decide) (by decide) (by decide) (by decide)).mono ?_
  rintro e w25 ⟨Xf, xf, rfl, hF, hb⟩
  have Of := hide hF
  clear hF
  replace Fa : Hid _ := hide (Fa.out.below hb)
  replace Fb : Hid _ := hide (Fb.out.below hb)
  replace Fc : Hid _ := hide (Fc.out.below hb)
  replace Fd : Hid _ := hide (Fd.out.below hb)
  replace Rp : Hid _ := hide (Rp.out.below hb)
  replace K := hide (below_more K.out (Nat.le_refl _) hb)
  clear hb
  go_wp2_with fail
  obtain ⟨V26, hV⟩ : ∃ V, w25.alloc (.cells #[.string ⟨#[97]⟩, .string ⟨#[]⟩] 9) = V := ⟨_, rfl⟩
  have hb : Below w25.heap.size w25 V26 := by rw [← hV]; exact (Below.refl _ _).alloc (Nat.le_refl _) _
  have Sf : Hid (Reads V26 V26.heap.size 1 (some ⟨w25.heap.size, 0, none⟩) 2 (svs [[97], []])) := hide (by rw [← hV]; exact lit_rd w25 [[97], []])
  rw [hV]
  replace Fa : Hid _ := hide (Fa.out.below hb)
  replace Fb : Hid _ := hide (Fb.out.below hb)
  replace Fc : Hid _ := hide (Fc.out.below hb)
  replace Fd : Hid _ := hide (Fd.out.below hb)
  replace Rp : Hid _ := hide (Rp.out.below hb)
  replace Of : Hid _ := hide (Of.out.below hb)
  replace K := hide (below_more K.out (Nat.le_refl _) hb)
  clear hb hV
  refine (texts_eq [[97], []] Xf _ 2 xf 2 2 _ Of.out.rd Sf.out (by decide)).mono ?_
  rintro e w27 ⟨rfl, hb⟩
  replace Fa : Hid _ := hide (Fa.out.below hb)
  replace Fb : Hid _ := hide (Fb.out.below hb)
  replace Fc : Hid _ := hide (Fc.out.below hb)
  replace Fd : Hid _ := hide (Fd.out.below hb)
  replace Rp : Hid _ := hide (Rp.out.below hb)
  replace K := hide (below_more K.out (Nat.le_refl _) hb)
  clear hb
  go_wp2_with fail
  go_ret
  exact ⟨rfl, K.out⟩
end Go.Proofs.Ytnongbbhpkmdjaa
