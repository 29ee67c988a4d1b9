/- The contracts of Check, Get, forms, without, texts and clone.List. -/
import Derived.Test.YtaibmfahfkoahaaGreatEnvT
namespace Go.Proofs.YtaibmfahfkoahaaGreat
open Go.RowKit
set_option linter.unusedVariables false
theorem echeck_any (l : List LB) (hs : ∀ s ∈ l, s.length ≤ 1000000) (A : Option Addr) (n c : Nat) (w : World) (hR : Reads w w.heap.size 1 A n (svs l)) (hn : n ≤ 1000000) :
    Calls Tryz.prog 15 #[.slice A n c] w fun e w' => e = .returned (.bool (envChk l)) ∧ Below w.heap.size w w' := by
  have X := hide (read_any l hs A n c w hR hn)
  clear hR
  generalize envChk l = R at *
  generalize readS l = RS at *
  go_enter Tryz.func15, Tryz.ntmps15
  go_wp2_with fail
  refine X.out.mono ?_
  rintro e w1 ⟨A', n', c', rfl, _, _, hb⟩
  have HB := hide hb
  clear hb X
  go_wp2_with fail
  go_ret
  exact ⟨rfl, HB.out⟩
theorem getE_read (l : List LB) (nm : LB) : getE l nm = lookS (readS l) nm := by
  by_cases h : envChk l = true
  · rw [readS_yes h, getE_look h]
  · rw [Bool.not_eq_true] at h
    rw [readS_no h]
    unfold getE
    rw [h]; rfl
theorem look_hit {S : List St} {nm : LB} {i : Nat} {p : St} (h0 : ∀ q ∈ S.take i, q.1 ≠ nm) (hp : S[i]? = some p) (he : p.1 = nm) : lookS S nm = some p.2 := by
  obtain ⟨h1, h2⟩ := List.getElem?_eq_some_iff.1 hp
  unfold lookS
  conv => lhs; rw [← List.take_append_drop i S]
  rw [List.find?_append, List.find?_eq_none.2 (fun q hq => by simpa using h0 q hq), Option.none_or, ← List.getElem_cons_drop (h := h1), h2, List.find?_cons_of_pos (by simpa using he)]; rfl
set_option maxRecDepth 100000 in
set_option maxHeartbeats 8000000 in
theorem eget_any (l : List LB) (hs : ∀ s ∈ l, s.length ≤ 1000000) (nm : LB) (A : Option Addr) (n c : Nat) (w : World) (hR : Reads w w.heap.size 1 A n (svs l)) (hn : n ≤ 1000000) :
    Calls Tryz.prog 6 #[.slice A n c, .string ⟨nm.toArray⟩] w fun e w' => e = .returned (.tuple #[.string ⟨((getE l nm).getD []).toArray⟩, .bool (getE l nm).isSome]) ∧ Below w.heap.size w w' := by
  have X := hide (read_any l hs A n c w hR hn)
  clear hR
  rw [getE_read]
  generalize envChk l = R at *
  generalize readS l = S at *
  obtain ⟨L, hL⟩ : ∃ L, lookS S nm = L := ⟨_, rfl⟩
  rw [hL]
  have HLK := hide hL
  clear hL
  go_enter Tryz.func6, Tryz.ntmps6
  go_wp2_with fail
  refine X.out.mono ?_
  rintro e w1 ⟨A', n', c', rfl, hO, hn', hb⟩
  have HO := hide hO.rd
  have HN := hide hO.rd.len
  have HB := hide hb
  clear hO hb X
  go_wp2_with fail
  go_loopw [9, 17] (fun _ u17 wx => ∃ k : Nat, k ≤ n' ∧ u17 = .int .i64 (k : Int) ∧ Hid (Below w1.heap.size w1 wx) ∧ Hid (∀ q ∈ S.take k, q.1 ≠ nm)) (fun _ u17 _ => n' - (intOf u17).toNat)
  case atStart => exact ⟨0, Nat.zero_le _, rfl, hide (Below.refl _ _), hide (fun q h => by simp at h)⟩
  case round =>
    obtain ⟨k, hk, rfl, HW, HF⟩ := hrel
    by_cases hlt : k < n'
    · obtain ⟨p, hp⟩ : ∃ p, S[k]? = some p := ⟨_, List.getElem?_eq_getElem (by have := HN.out; omega)⟩
      obtain ⟨g, o, rfl, hg, c0, c1⟩ := set_cells (HO.out.below HW.out) hp
      have hia := fun W => set_at g o n' c' k (k : Int) rfl hlt W
      have hlt' : (k : Int) < (n' : Int) := by omega
      have HP := hide hp
      have HB2 : Hid (∀ a : Obj, Below w1.heap.size w1 (wr.alloc a)) := hide (fun a => HW.out.alloc HW.out.size a)
      obtain ⟨pn, pv⟩ := p
      dsimp only at c0 c1
      clear hp
      by_cases he : pn = nm
      · have ke : (pn == nm) = true := beq_iff_eq.2 he
        obtain rfl : L = some pv := HLK.out.symm.trans (look_hit HF.out HP.out he)
        have HE := hide he
        clear he
        go_wp2_with fail
        refine bodyPost_ret (v := .tuple #[.string ⟨pv.toArray⟩, .bool true]) (by simp only [results, Tryz.results6]; go_simp) rfl ⟨rfl, below_more HB.out (Nat.le_refl _) (HB2.out _)⟩
      · have ke : (pn == nm) = false := beq_eq_false_iff_ne.2 he
        have HF2 : Hid (∀ q ∈ S.take (k + 1), q.1 ≠ nm) := hide (fun q hq => by
          obtain ⟨g1, g2⟩ := List.getElem?_eq_some_iff.1 HP.out
          rw [List.take_succ_eq_append_getElem g1, g2, List.mem_append, List.mem_singleton] at hq
          rcases hq with hq | rfl
          · exact HF.out q hq
          · exact he)
        clear he
        go_wp2_with fail
        go_roundw
        case rel => exact ⟨k + 1, by omega, by go_num, hide (HB2.out _), HF2⟩
        case measure => simp [intOf]; omega
    · have hlt' : ¬ (k : Int) < (n' : Int) := by omega
      obtain rfl : L = none := by
        rw [← HLK.out]
        have h := HF.out
        rw [List.take_of_length_le (by have := HN.out; omega)] at h
        unfold lookS
        rw [List.find?_eq_none.2 (fun q hq => by simpa using h q hq)]; rfl
      go_wp2_with fail
      refine bodyPost_ret (v := .tuple #[.string ⟨#[]⟩, .bool false]) (by simp only [results, Tryz.results6]; go_simp) rfl ⟨rfl, below_more HB.out (Nat.le_refl _) HW.out⟩
theorem forms_eq (n v : LB) : formsP n v = ((parseP (textS (n, v))).isSome && (((parseP (textS (n, v))).getD ([], [])).1 == n)) := by
  unfold formsP
  cases h : parseP (textS (n, v)) with
  | none => simp
  | some p =>
    have ht := parse_text h
    obtain ⟨a, b⟩ := p
    by_cases he : a = n
    · subst he
      have : b = v := by
        unfold textS at ht
        dsimp only at ht
        have := List.append_cancel_left ht
        simpa using this
      subst this
      simp
    · have hne : ¬ (a = n ∧ b = v) := fun h => he h.1
      simp [he]
set_option maxHeartbeats 4000000 in
theorem forms_any (n v : LB) (h1 : n.length ≤ 100000) (h2 : v.length ≤ 100000) (w : World) : Calls Tryz.prog 23 #[.string ⟨n.toArray⟩, .string ⟨v.toArray⟩] w fun e w' => e = .returned (.bool (formsP n v)) ∧ Below w.heap.size w w' := by
  obtain ⟨t, ht⟩ : ∃ t, textS (n, v) = t := ⟨_, rfl⟩
  have htl : t.length ≤ 1000000 := by
    rw [← ht]
    show (n ++ 61 :: v).length ≤ _
    rw [List.length_append, List.length_cons]; omega
  have HE : Hid ((⟨n.toArray⟩ ++ ⟨#[61]⟩) ++ ⟨v.toArray⟩ = (⟨t.toArray⟩ : ByteArray)) := hide (by
    have e1 := catB n [61]
    have e2 := catB (n ++ [61]) v
    rw [show (⟨#[61]⟩ : ByteArray) = ⟨([61] : LB).toArray⟩ from rfl, e1, e2, ← ht]
    unfold textS
    simp)
  have XP := hide (fun W => parse_any t (by omega) W)
  rw [forms_eq, ht]
  unfold parseV at XP
  clear ht
  have hza : ¬ 9223372036854775807 < n.length + 1 := by omega
  have hzb : ¬ 9223372036854775807 < n.length + 1 + v.length := by omega
  generalize parseP t = q at *
  cases q with
  | none =>
    dsimp only [Option.getD, Option.isSome] at XP ⊢
    unfold St.v at XP
    dsimp only at XP
    go_enter Tryz.func23, Tryz.ntmps23
    go_wp2_with fail
    rw [HE.out]
    refine (XP.out _).mono ?_
    rintro e w1 ⟨rfl, hb⟩
    have HB : Hid (∀ a : Obj, Below w.heap.size w (w1.alloc a)) := hide (fun a => hb.alloc hb.size a)
    clear hb
    go_wp2_with fail
    go_ret
    exact ⟨rfl, HB.out _⟩
  | some p =>
    obtain ⟨a, b⟩ := p
    dsimp only [Option.getD, Option.isSome] at XP ⊢
    unfold St.v at XP
    dsimp only at XP
    rw [Bool.true_and]
    go_enter Tryz.func23, Tryz.ntmps23
    go_wp2_with fail
    rw [HE.out]
    refine (XP.out _).mono ?_
    rintro e w1 ⟨rfl, hb⟩
    have HB : Hid (∀ a : Obj, Below w.heap.size w (w1.alloc a)) := hide (fun a => hb.alloc hb.size a)
    clear hb
    go_wp2_with fail
    go_ret
    exact ⟨rfl, HB.out _⟩
def kwo (nm : LB) (p : St) : Bool := !(p.1 == nm)
theorem wo1_any (p : St) (nm : LB) (q : Nat) (w : World) (hq : q < w.heap.size) (hc : w.cell? ⟨q, 0, none⟩ = some (.string ⟨nm.toArray⟩)) : Calls Tryz.prog 46 #[St.v p, .pointer (some ⟨q, 0, none⟩)] w fun e w' => e = .returned (.bool (kwo nm p)) ∧ Below w.heap.size w w' := by
  obtain ⟨a, b⟩ := p
  unfold St.v kwo
  dsimp only
  have HB := hide ((Below.refl w.heap.size w).alloc (Nat.le_refl _) (.cells #[.string ⟨a.toArray⟩, .string ⟨b.toArray⟩] 46))
  go_enter Tryz.func46, Tryz.ntmps46
  go_wp2_with fail
  go_ret
  exact ⟨rfl, HB.out⟩
def selP (f : St → Bool) (S : List St) : List St := S.filter f
theorem sel_next {S : List St} {i : Nat} {p : St} (f : St → Bool) (h : S[i]? = some p) : selP f (S.take (i + 1)) = selP f (S.take i) ++ (if f p = true then [p] else []) := by
  obtain ⟨h1, h2⟩ := List.getElem?_eq_some_iff.1 h
  unfold selP
  rw [List.take_succ_eq_append_getElem h1, h2, List.filter_append, List.filter_cons, List.filter_nil]
/-- A box of the caller's, with a text in it. -/
def BoxS (q : Nat) (nm : LB) (W : World) : Prop := q < W.heap.size ∧ W.cell? ⟨q, 0, none⟩ = some (.string ⟨nm.toArray⟩)
theorem inv_keep {q : Nat} {nm : LB} {w W : World} (h : BoxS q nm w) (hb : Below w.heap.size w W) : BoxS q nm W := ⟨Nat.lt_of_lt_of_le h.1 hb.size, (hb.cell (p := ⟨q, 0, none⟩) h.1).trans h.2⟩
set_option maxRecDepth 100000 in
set_option maxHeartbeats 8000000 in
theorem selw_any (S : List St) (nm : LB) (q : Nat) (A : Option Addr) (n c : Nat) (w : World) (hR : RdS w A n S) (hn : n ≤ 100000) (hI : (BoxS q nm) w) (hIk : ∀ W W', (BoxS q nm) W → Below W.heap.size W W' → (BoxS q nm) W') (hcall : ∀ p W, (BoxS q nm) W → Calls Tryz.prog 46 #[St.v p, .pointer (some ⟨q, 0, none⟩)] W fun e w' => e = .returned (.bool (kwo nm p)) ∧ Below W.heap.size W w') :
    Calls Tryz.prog 43 #[.slice A n c, .func (.func 46) #[] #[.pointer (some ⟨q, 0, none⟩)]] w fun e w' => ∃ A' n' c', e = .returned (.slice A' n' c') ∧ OwS w.heap.size w' A' n' c' (selP (kwo nm) S) ∧ Below w.heap.size w w' := by
  obtain ⟨i0, hi0, hz0, hz1, hz2⟩ := info_parts infoSet
  have HN := hide hR.len
  have HR := hide hR
  have HI := hide hI
  have HIK := hide hIk
  have HCL := hide hcall
  clear hR hI hIk hcall
  go_enter Tryz.func43, Tryz.ntmps43
  go_wp2_with fail
  go_loopw [5, 7, 10] (fun u5 _ u10 wx => ∃ (k m : Nat) (A' : Option Addr) (c' : Nat), k ≤ n ∧ m ≤ k ∧ u10 = .int .i64 (k : Int) ∧ u5 = .slice A' m c' ∧ Hid (OwS w.heap.size wx A' m c' (selP (kwo nm) (S.take k))) ∧ Hid (Below w.heap.size w wx) ∧ Hid ((BoxS q nm) wx)) (fun _ _ u10 _ => n - (intOf u10).toNat)
  case atStart => exact ⟨0, 0, none, 0, Nat.zero_le _, Nat.zero_le _, rfl, rfl, hide (OwS.none_ _ _), hide (Below.refl _ _), HI⟩
  case round =>
    obtain ⟨k, m, A', c', hk, hmk, rfl, rfl, HO, HB, HIx⟩ := hrel
    by_cases hlt : k < n
    · obtain ⟨p, hp⟩ : ∃ p, S[k]? = some p := ⟨_, List.getElem?_eq_getElem (by have := HN.out; omega)⟩
      obtain ⟨g, o, rfl, hg, c0, c1⟩ := set_cells (HR.out.below HB.out) hp
      have hia := fun W => set_at g o n c k (k : Int) rfl hlt W
      have hlt' : (k : Int) < (n : Int) := by omega
      have HNX := hide (sel_next (kwo nm) hp)
      obtain ⟨W1, hW1⟩ : ∃ W, wr.alloc (.cells #[.string ⟨p.1.toArray⟩, .string ⟨p.2.toArray⟩] 46) = W := ⟨_, rfl⟩
      have HB1 : Hid (Below w.heap.size w W1) := hide (by rw [← hW1]; exact HB.out.alloc HB.out.size _)
      have HI1 := hide (HIK.out wr W1 HIx.out (by rw [← hW1]; exact (Below.refl _ _).alloc (Nat.le_refl _) _))
      have HO1 : Hid (OwS w.heap.size W1 A' m c' (selP (kwo nm) (S.take k))) := hide (by rw [← hW1]; exact World.ownsRow.alloc HO.out _)
      have b1 : Blk W1 wr.heap.size 46 #[.string ⟨p.1.toArray⟩, .string ⟨p.2.toArray⟩] := by rw [← hW1]; exact Blk.new wr 46 _
      have hlt1 := b1.lt
      have B1 := hide b1
      have HW1 := hide hW1
      have XC := hide (HCL.out p W1 HI1.out)
      obtain ⟨kp, hkp⟩ : ∃ b, (kwo nm) p = b := ⟨_, rfl⟩
      rw [hkp] at HNX XC
      obtain ⟨pn, pv⟩ := p
      dsimp only at c0 c1 HW1 B1
      unfold St.v at XC
      dsimp only at XC
      clear hp hW1 b1 hkp
      cases kp with
      | false =>
        go_wp2_with fail
        try rw [HW1.out]
        refine XC.out.mono ?_
        rintro e w2 ⟨rfl, hb⟩
        have HB2 := hide (below_more HB1.out (Nat.le_refl _) hb)
        have HO2 := hide (HO1.out.below hb)
        have HI2 := hide (HIK.out _ _ HI1.out hb)
        clear hb c0 c1
        go_wp2_with fail
        go_roundw
        case rel => exact ⟨k + 1, m, A', c', by omega, by omega, by go_num, rfl, hide (by rw [HNX.out, if_neg (by decide), List.append_nil]; exact HO2.out), HB2, HI2⟩
        case measure => simp [intOf]; omega
      | true =>
        go_wp2_with fail
        try rw [HW1.out]
        refine XC.out.mono ?_
        rintro e w2 ⟨rfl, hb⟩
        have HB2 := hide (below_more HB1.out (Nat.le_refl _) hb)
        have HO2 := hide (HO1.out.below hb)
        have HI2 := hide (HIK.out _ _ HI1.out hb)
        obtain ⟨d0, d1, f0, f1⟩ := Blk.two (B1.out.below hb hlt1)
        have hr1 := one_set (x := (pn, pv)) (Blk.new w2 46 #[.string ⟨pn.toArray⟩, .string ⟨pv.toArray⟩])
        have hO2 := World.ownsRow.alloc HO2.out (.cells #[.string ⟨pn.toArray⟩, .string ⟨pv.toArray⟩] 46)
        have hsz := HB2.out.size
        have HI3 := hide (HIK.out _ _ HI2.out ((Below.refl w2.heap.size w2).alloc (Nat.le_refl _) (.cells #[.string ⟨pn.toArray⟩, .string ⟨pv.toArray⟩] 46)))
        clear hb c0 c1
        go_wp2_with (at_builtin; (refine wpList_append_any _ rfl (.tmp 17) (.tmp 19) 42 rfl w.heap.size 46 i0 _ 2 32 Tryz.underlying42 hi0 hz0 hz1 hz2 rfl (by omega) (.slice A' m c') m (pss (selP (kwo nm) (S.take k))) rfl hO2 _ (some ⟨w2.heap.size, 0, none⟩) 1 1 (pss [(pn, pv)]) rfl hr1 (pss_one _) ?c1 ?c2 ?c3 ?_))
        case c1 => unfold maxLen; omega
        case c2 => omega
        case c3 => simp; omega
        intro v1 w6 hown1 hg1 hat1
        obtain ⟨A6, c6, rfl⟩ := own_slice hown1
        rw [← pss_append] at hown1
        have HO6 : Hid (OwS w.heap.size w6 A6 (m + 1) c6 (selP (kwo nm) (S.take (k + 1)))) := hide (by rw [HNX.out]; first | (rw [if_pos rfl]; exact hown1) | (rw [if_pos trivial]; exact hown1))
        have HB6 : Hid (Below w.heap.size w w6) := hide ((HB2.out.alloc hsz _).grown hg1 (by simp; omega) (fun g hg => (World.ownsRow.lt HO2.out g hg).1))
        have HI6 : Hid ((BoxS q nm) w6) := hide (by
          exact inv_keep HI.out HB6.out)
        clear hown1 hg1 hat1 hr1 hO2
        go_wp2_with fail
        go_roundw
        case rel => exact ⟨k + 1, m + 1, A6, c6, by omega, by omega, by go_num, rfl, HO6, HB6, HI6⟩
        case measure => simp [intOf]; omega
    · have hlt' : ¬ (k : Int) < (n : Int) := by omega
      obtain rfl : k = n := by omega
      have HOE : Hid (OwS w.heap.size wr A' m c' (selP (kwo nm) S)) := hide (by have := HO.out; rwa [List.take_of_length_le (by rw [HN.out]; exact Nat.le_refl _)] at this)
      go_wp2_with fail
      go_ret
      first | exact ⟨A', m, c', rfl, HOE.out, HB.out⟩ | exact ⟨A', ⟨m, c', rfl⟩, HOE.out, HB.out⟩
theorem ewithout_any (S : List St) (nm : LB) (A : Option Addr) (n c : Nat) (w : World) (hR : RdS w A n S) (hn : n ≤ 100000) :
    Calls Tryz.prog 25 #[.slice A n c, .string ⟨nm.toArray⟩] w fun e w' => ∃ A' n' c', e = .returned (.slice A' n' c') ∧ OwS w.heap.size w' A' n' c' (notK nm S) ∧ Below w.heap.size w w' := by
  have hb0 := (Below.refl w.heap.size w).alloc (Nat.le_refl _) (.cells #[.string ⟨nm.toArray⟩] 9)
  have X := hide (selw_any S nm w.heap.size A n c (w.alloc (.cells #[.string ⟨nm.toArray⟩] 9)) (RdS.below hR hb0) hn ⟨by simp, (Blk.new w 9 #[.string ⟨nm.toArray⟩]).cell 0⟩ (fun W W' h hb => inv_keep h hb) (fun p W h => wo1_any p nm w.heap.size W h.1 h.2))
  have HB0 := hide hb0
  have HK : Hid (selP (kwo nm) S = notK nm S) := hide rfl
  clear hR hb0
  go_enter Tryz.func25, Tryz.ntmps25
  go_wp2_with fail
  refine X.out.mono ?_
  rintro e w1 ⟨A', n', c', rfl, hO, hb⟩
  have HO := hide (hO.more HB0.out.size)
  have HB := hide (below_more HB0.out (Nat.le_refl _) hb)
  clear hO hb X
  go_wp2_with fail
  go_ret
  first | exact ⟨A', n', c', rfl, by rw [← HK.out]; exact HO.out, HB.out⟩ | exact ⟨A', ⟨n', c', rfl⟩, by rw [← HK.out]; exact HO.out, HB.out⟩ | exact ⟨A', n', ⟨c', rfl⟩, by rw [← HK.out]; exact HO.out, HB.out⟩
end Go.Proofs.YtaibmfahfkoahaaGreat
