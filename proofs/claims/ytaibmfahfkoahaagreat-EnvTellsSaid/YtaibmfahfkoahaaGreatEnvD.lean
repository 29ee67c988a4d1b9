/- The contract of env.Of. -/
import Derived.Test.YtaibmfahfkoahaaGreatEnvC
namespace Go.Proofs.YtaibmfahfkoahaaGreat
open Go.RowKit
open Go.Maps
set_option linter.unusedVariables false
theorem parse_len {s : LB} {p : St} (h : parseP s = some p) : p.1.length ≤ s.length ∧ p.2.length ≤ s.length := by
  obtain ⟨_, _, _, h1, h2, _⟩ := parse_name h
  rw [h1, h2, List.length_take, List.length_drop]; omega
theorem ins_len (S : List St) (p : St) : ∀ q ∈ insS S p, q = p ∨ q ∈ S := by
  intro q hq
  unfold insS at hq
  rcases List.mem_append.1 hq with hq | hq
  · rcases List.mem_append.1 hq with hq | hq
    · exact .inr (List.mem_filter.1 hq).1
    · exact .inl (List.mem_singleton.1 hq)
  · exact .inr (List.mem_filter.1 hq).1
theorem fold_mem : ∀ (l : List LB) (S : List St) (q : St), q ∈ l.foldl stepS S → q ∈ S ∨ ∃ s ∈ l, parseP s = some q
  | [], S, q, h => .inl h
  | s :: l, S, q, h => by
    rw [List.foldl_cons] at h
    rcases fold_mem l _ q h with h | ⟨s', h1, h2⟩
    · cases hp : parseP s with
      | none => rw [stepS_none hp] at h; exact .inl h
      | some p =>
        rw [stepS_some hp] at h
        rcases ins_len S p q h with rfl | h
        · exact .inr ⟨s, List.mem_cons_self, hp⟩
        · exact .inl h
    · exact .inr ⟨s', List.mem_cons_of_mem _ h1, h2⟩
theorem ofS_mem {l : List LB} {q : St} (h : q ∈ ofS l) : ∃ s ∈ l, parseP s = some q := by
  rcases fold_mem l [] q h with h | h
  · cases h
  · exact h
theorem ofS_short {l : List LB} {q : St} (h : q ∈ ofS l) : q.1.length ≤ 256 ∧ q.2.length ≤ 256 := by
  obtain ⟨s, _, hs⟩ := ofS_mem h
  have := parse_len hs
  have := (parse_name hs).2.1
  omega
theorem ins_size (S : List St) (p : St) : (insS S p).length ≤ S.length + 1 := by
  have h : ∀ T : List St, (T.filter (fun q => decide (q.1 < p.1))).length + (T.filter (fun q => decide (p.1 < q.1))).length ≤ T.length := by
    intro T
    induction T with
    | nil => simp
    | cons q r ih =>
      rw [List.filter_cons, List.filter_cons]
      by_cases h1 : q.1 < p.1
      · rw [if_pos (by simpa using h1), if_neg (by simpa using blt_asymm h1)]
        simp only [List.length_cons]; omega
      · rw [if_neg (by simpa using h1)]
        split <;> simp only [List.length_cons] <;> omega
  have := h S
  unfold insS
  simp only [List.length_append, List.length_singleton]; omega
theorem fold_size : ∀ (l : List LB) (S : List St), (l.foldl stepS S).length ≤ S.length + l.length
  | [], S => by simp
  | s :: l, S => by
    rw [List.foldl_cons]
    refine Nat.le_trans (fold_size l _) ?_
    cases hp : parseP s with
    | none => rw [stepS_none hp]; simp only [List.length_cons]; omega
    | some p =>
      have := ins_size S p
      rw [stepS_some hp]
      simp only [List.length_cons]; omega
theorem ofS_size (l : List LB) : (ofS l).length ≤ l.length := by have := fold_size l []; simpa [ofS] using this
theorem of_take (l : List LB) (i : Nat) {s : LB} (h : l[i]? = some s) : ofS (l.take (i + 1)) = stepS (ofS (l.take i)) s := by
  obtain ⟨h1, h2⟩ := List.getElem?_eq_some_iff.1 h
  rw [List.take_succ_eq_append_getElem h1, h2, ofS_snoc]
theorem cells_str {w : World} {B n : Nat} {A : Option Addr} {l : List LB} (h : Reads w B 1 A n (svs l)) {k : Nat} {x : LB} (hp : l[k]? = some x) : ∃ g o, A = some ⟨g, o, none⟩ ∧ g < B ∧ w.cell? ⟨g, o + k, none⟩ = some (.string ⟨x.toArray⟩) := by
  obtain ⟨hk, he⟩ := List.getElem?_eq_some_iff.1 hp
  have hn : l.length = n := by have := h.1; rw [svs_length] at this; omega
  obtain ⟨g, o, rfl, hg, hc⟩ := cells_of h (by omega) (by rw [svs_length]; omega)
  refine ⟨g, o, rfl, hg, ?_⟩
  have := hc k _ (svs_get l k hk)
  rw [he] at this
  exact this
set_option maxRecDepth 100000 in
set_option maxHeartbeats 8000000 in
theorem of_any (l : List LB) (hs : ∀ s ∈ l, s.length ≤ 1000000) (A : Option Addr) (n c : Nat) (w : World) (hR : Reads w w.heap.size 1 A n (svs l)) (hn : n ≤ 1000) :
    Calls Tryz.prog 11 #[.slice A n c] w fun e w' => ∃ A' c', e = .returned (.slice A' (ofP l).length c') ∧ Ow w.heap.size w' A' (ofP l).length c' (ofP l) ∧ Below w.heap.size w w' := by
  have hmm := @run_makeMap Tryz.prog
  obtain ⟨i0, hi, hz0, hz1, hz2⟩ := info_parts infoStr
  have hl : l.length = n := by have := hR.1; rw [svs_length] at this; omega
  have HR := hide hR
  have HL := hide hl
  have HS := hide hs
  clear hR hl hs
  go_enter Tryz.func11, Tryz.ntmps11
  go_wp2_with fail
  obtain ⟨b, hb⟩ : ∃ b, w.heap.size = b := ⟨_, rfl⟩
  have HBB := hide hb
  have HE0 : Hid (EMap (w.alloc (.map #[] 0)) b 0 []) := hide (by rw [← hb]; exact EMap.made w)
  have HB0 : Hid (Below b w (w.alloc (.map #[] 0))) := hide (by rw [← hb]; exact (Below.refl _ _).alloc (Nat.le_refl _) _)
  obtain ⟨W0, hW0⟩ : ∃ W, w.alloc (.map #[] 0) = W := ⟨_, rfl⟩
  rw [hW0] at HE0 HB0
  (try rw [hW0])
  (try rw [hb])
  clear hW0 hb hmm
  go_loopw [5, 6, 7, 15] (fun _ _ _ u15 wx => ∃ i : Nat, i ≤ n ∧ u15 = .int .i64 (i : Int) ∧ Hid (EMap wx b i (ofS (l.take i))) ∧ Hid (Below b w wx)) (fun _ _ _ u15 _ => n - (intOf u15).toNat)
  case atStart => exact ⟨0, by omega, rfl, HE0, HB0⟩
  case round =>
    clear HE0 HB0
    obtain ⟨i, hin, rfl, HE, HB⟩ := hrel
    by_cases hlt : i < n
    · obtain ⟨s, hsx⟩ : ∃ s, l[i]? = some s := ⟨_, List.getElem?_eq_getElem (by have := HL.out; omega)⟩
      have hsl := HS.out s (List.mem_of_getElem? hsx)
      have HRx : Reads wr b 1 A n (svs l) := (HBB.out ▸ HR.out : Reads w b 1 A n (svs l)).below HB.out
      obtain ⟨g, o, rfl, hg, hcell⟩ := cells_str HRx hsx
      have hia := fun W => str_at g o n c i (i : Int) rfl hlt W
      have HT := hide (of_take l i hsx)
      have XP := hide (fun W => parse_any s (by omega) W)
      have hlt' : (i : Int) < (n : Int) := by omega
      have hbl := HE.out.lt
      clear hsx HRx
      unfold parseV at XP
      obtain ⟨q, hq⟩ : ∃ q, parseP s = q := ⟨_, rfl⟩
      rw [hq] at XP
      unfold stepS at HT
      rw [hq] at HT
      cases q with
      | none =>
        dsimp only [Option.getD, Option.isSome] at XP HT
        unfold St.v at XP
        dsimp only at XP
        clear hq
        go_wp2_with fail
        refine (XP.out _).mono ?_
        rintro e w1 ⟨rfl, hb1⟩
        have HE1 : Hid (EMap w1 b (i + 1) (ofS (l.take (i + 1)))) := hide (by rw [HT.out]; exact (HE.out.kept (hb1.block b hbl)).more (by omega))
        have HB1 := hide (below_more HB.out (by have := HBB.out; omega) hb1)
        have hbl1 := HE1.out.lt
        have HE2 : ∀ o : Obj, EMap (w1.alloc o) b (i + 1) (ofS (l.take (i + 1))) := fun o => HE1.out.kept (Below.heap_alloc _ _ b hbl1)
        have HE2 := hide HE2
        have HB2 : ∀ o : Obj, Below b w (w1.alloc o) := fun o => HB1.out.alloc (by omega) o
        have HB2 := hide HB2
        clear hb1 HE HB
        go_wp2_with fail
        go_roundw
        case rel => exact ⟨i + 1, by omega, by go_num, hide (HE2.out _), hide (HB2.out _)⟩
        case measure => simp [intOf]; omega
      | some p =>
        have hpl := parse_len hq
        obtain ⟨pn, pv⟩ := p
        dsimp only [Option.getD, Option.isSome] at XP HT hpl
        unfold St.v at XP
        dsimp only at XP
        clear hq
        go_wp2_with fail
        refine (XP.out _).mono ?_
        rintro e w1 ⟨rfl, hb1⟩
        have HE1 : Hid (EMap w1 b i (ofS (l.take i))) := hide (HE.out.kept (hb1.block b hbl))
        have HB1 := hide (below_more HB.out (by have := HBB.out; omega) hb1)
        obtain ⟨W2, hW2⟩ : ∃ W, w1.alloc (.cells #[.string ⟨pn.toArray⟩, .string ⟨pv.toArray⟩] 46) = W := ⟨_, rfl⟩
        have hbl1 := HE1.out.lt
        have HE2 : Hid (EMap W2 b i (ofS (l.take i))) := hide (by rw [← hW2]; exact HE1.out.kept (Below.heap_alloc _ _ b hbl1))
        have HB2 : Hid (Below b w W2) := hide (by rw [← hW2]; exact HB1.out.alloc (by omega) _)
        obtain ⟨D, hD, hD1, hD2⟩ := HE2.out
        have HD1 := hide hD1
        have HD2 := hide hD2
        have HTD := hide (hD.tidy keyS).isMap
        have HKEY := hide (key_s pn (by omega))
        have hD0 := hide (show (w1.alloc (.cells #[.string ⟨pn.toArray⟩, .string ⟨pv.toArray⟩] 46)).ownsMap Tryz.prog 9 setElem b i D by rw [hW2]; exact hD)
        have HW2 := hide hW2
        clear hb1 HE HB hD1 hD2 hW2 hD
        go_wp2_with (at_mapUpdate; refine wpList_mapUpdate_own _ rfl _ _ _ 55 rfl 9 46 keyS Tryz.underlying55 _ b i _ rfl hD0.out (by unfold maxLen; omega) _ _ _ rfl rfl HKEY.out _ [] (setElem_mk (pn, pv)) ?_; intro w3 hown3 hgrow3)
        have HE3 : Hid (EMap w3 b (i + 1) (ofS (l.take (i + 1)))) := hide (by rw [HT.out]; exact EMap.put (p := (pn, pv)) hown3 HTD.out HD1.out HD2.out)
        have HB3 : Hid (Below b w w3) := hide (HB2.out.grown (HW2.out ▸ hgrow3) (by have := HE2.out.lt; omega) (fun j hj => by cases hj; exact Nat.le_refl _))
        clear hown3 hgrow3
        go_roundw
        case rel => exact ⟨i + 1, by omega, by go_num, HE3, HB3⟩
        case measure => simp [intOf]; omega
    · have hlt' : ¬ (i : Int) < (n : Int) := by omega
      obtain rfl : i = n := by omega
      have HEN : Hid (EMap wr b i (ofS l)) := hide (by have := HE.out; rwa [List.take_of_length_le (by rw [HL.out]; exact Nat.le_refl _)] at this)
      obtain ⟨S, hS⟩ : ∃ S, ofS l = S := ⟨_, rfl⟩
      have HOP : Hid (ofP l = (S.take 32).map textS) := hide (by unfold ofP; rw [hS])
      have hSS : sortedS S := by rw [← hS]; exact ofS_sorted l
      have hSN : S.length ≤ i := by rw [← hS, ← HL.out]; exact ofS_size l
      have HSH : Hid (∀ q ∈ S, q.1.length ≤ 256 ∧ q.2.length ≤ 256) := hide (fun q hq => ofS_short (l := l) (by rw [hS]; exact hq))
      rw [hS] at HEN
      have HSS := hide hSS
      clear hS hSS HE
      obtain ⟨D, hD, hD1, hD2⟩ := HEN.out
      obtain ⟨hPM, hSZ⟩ := names_perm hD hD1 HSS.out
      have HPM := hide hPM
      have hbl := HEN.out.lt
      have XK := hide (callsIn_wide.1 (Tryz.maps_Keys_34 (some b) wr))
      have XS := hide (callsIn_wide.1 (Tryz.slices_Sorted_keys_33_34 b i D setElem wr hD (by rw [hSZ]; unfold maxLen; omega) (by rw [hSZ]; omega)))
      clear hD hD1 hD2 hPM hSZ
      go_wp2_with fail
      refine XK.out.mono ?_
      rintro e w1 ⟨rfl, rfl⟩
      clear XK
      go_wp2_with fail
      refine XS.out.mono ?_
      rintro e w2 ⟨v, ss, rfl, hp, hrow, hnil, hb2⟩
      have hp2 := hp.trans HPM.out.symm
      have hl2 : ss.length = S.length := by have := hp2.length_eq; rwa [List.length_map] at this
      rw [names_sort HSS.out hp2, hl2] at hrow
      obtain ⟨NA, nc, rfl⟩ := own_slice hrow
      have HO : Hid (Ow b w2 NA S.length nc (S.map Prod.fst)) := hide (own_more hrow (by simp; omega))
      have HB2 : Hid (Below b w w2) := hide ((HB.out.alloc (Nat.le_of_lt hbl) _).trans (hb2.mono (by simp; omega)))
      have HE2 : Hid (EMap w2 b i S) := hide (HEN.out.kept ((hb2.block b (by simp; omega)).trans (Below.heap_alloc _ _ b hbl)))
      clear XS hp hp2 hrow hnil hb2 HEN HPM hl2 hlt hlt'
      obtain ⟨K, hK⟩ : ∃ K, (S.take 32).length = K := ⟨_, rfl⟩
      have hKS : K ≤ S.length ∧ K ≤ 32 := by rw [← hK, List.length_take]; omega
      have HKe : Hid (K = min S.length 32) := hide (by rw [← hK, List.length_take, Nat.min_comm])
      have HOPL : Hid ((ofP l).length = K) := hide (by rw [HOP.out, List.length_map, hK])
      have hnc := HO.out.addr.1
      have hKm : min (S.length : Int) 32 = (K : Int) := by have := HKe.out; omega
      have hsl : ∀ W, (Instr.slice 22 (.slice NA S.length nc) none (some (.int .i64 (min (S.length : Int) 32))) none).run Tryz.prog W = .ok (.slice NA K nc) W := fun W => by
        rw [hKm]
        have := run_slice_to (P := Tryz.prog) 22 9 Tryz.underlying22 sizeStr NA S.length nc .i64 (K : Int) (by omega) (by omega) W
        rwa [Int.toNat_natCast] at this
      have HKM := hide hKm
      have HRN := hide HO.out.rd
      have HLOOP : Hid (∀ j : Nat, j < K → ∃ p : St, S[j]? = some p) := hide (fun j hj => ⟨S[j]'(by omega), List.getElem?_eq_getElem (by omega)⟩)
      clear hnc hKm
      go_wp2_with fail
      go_loopw [9, 11, 39] (fun u9 _ u39 wx => ∃ (k : Nat) (A' : Option Addr) (c' : Nat), k ≤ K ∧ u39 = .int .i64 (k : Int) ∧ u9 = .slice A' k c' ∧ Hid (Ow w2.heap.size wx A' k c' ((S.map textS).take k)) ∧ Hid (Below w2.heap.size w2 wx)) (fun _ _ u39 _ => K - (intOf u39).toNat)
      case atStart => exact ⟨0, none, 0, by omega, rfl, rfl, hide (Ow.none_ _ _), hide (Below.refl _ _)⟩
      case round =>
        obtain ⟨k, A', c', hkK, rfl, rfl, HO', HB'⟩ := hrel
        by_cases hlt : k < K
        · obtain ⟨p, hp⟩ := HLOOP.out k hlt
          have hpm := List.mem_of_getElem? hp
          obtain ⟨hs1, hs2⟩ := HSH.out p hpm
          have hnm : (S.map Prod.fst)[k]? = some p.1 := by rw [List.getElem?_map, hp]; rfl
          obtain ⟨g, o, rfl, hg, hcell⟩ := cells_str (HRN.out.below HB'.out) hnm
          have hia := fun W => str_at g o K nc k (k : Int) rfl hlt W
          have hE2 := HE2.out.kept (HB'.out.block b HE2.out.lt)
          have hlk := hE2.look HSS.out hpm (by omega)
          have XT := hide (fun W => text_any p (by omega) (by omega) W)
          have HTX : Hid ((S.map textS).take (k + 1) = (S.map textS).take k ++ [textS p]) := hide (by
            have hp' : (S.map textS)[k]? = some (textS p) := by rw [List.getElem?_map, hp]; rfl
            obtain ⟨h1, h2⟩ := List.getElem?_eq_some_iff.1 hp'
            rw [List.take_succ_eq_append_getElem h1, h2])
          have hlt' : (k : Int) < (K : Int) := by omega
          unfold St.v at hlk XT
          clear hp hpm hnm hE2
          generalize textS p = x at *
          go_wp2_with fail
          refine (XT.out _).mono ?_
          rintro e w5 ⟨rfl, hb5⟩
          have HB5 := hide (below_more HB'.out (Nat.le_refl _) hb5)
          have HO5 := hide (HO'.out.below hb5)
          have hr1 := one_str w5 x
          have hO1 := HO5.out.alloc (.cells #[.string ⟨x.toArray⟩] 9)
          have hsz5 := HB5.out.size
          clear hb5 hlk hcell hia
          go_wp2_with (at_builtin; (refine wpList_append_any _ rfl (.tmp 43) (.tmp 48) 22 rfl w2.heap.size 9 i0 _ 1 16 Tryz.underlying22 hi hz0 hz1 hz2 rfl (by omega) (.slice A' k c') k (svs ((S.map textS).take k)) rfl hO1 (w5.heap.size + 1) (some ⟨w5.heap.size, 0, none⟩) 1 1 (svs [x]) rfl hr1 (svs_one _) ?c1 ?c2 ?c3 ?_))
          case c1 => unfold maxLen; omega
          case c2 => omega
          case c3 => simp; omega
          intro v1 w6 hown1 hg1 hat1
          obtain ⟨A2, c2, rfl, O2, W2⟩ := ow_next' HO5.out hown1 hg1 HB5.out (Nat.le_refl _)
          have HO6 : Hid (Ow w2.heap.size w6 A2 (k + 1) c2 ((S.map textS).take (k + 1))) := hide (by rw [HTX.out]; exact O2)
          have HB6 := hide W2
          clear hown1 hg1 hat1 O2 W2 hr1 hO1
          go_wp2_with fail
          go_roundw
          case rel => exact ⟨k + 1, A2, c2, by omega, by go_num, rfl, HO6, HB6⟩
          case measure => simp [intOf]; omega
        · have hlt' : ¬ (k : Int) < (K : Int) := by omega
          obtain rfl : k = K := by omega
          have HF : Hid (Ow w2.heap.size wr A' k c' (ofP l)) := hide (by
            rw [HOP.out]
            have := HO'.out
            rwa [show (S.map textS).take k = (S.take 32).map textS by
              have := HKe.out
              rw [this, List.map_take]
              rcases Nat.le_total S.length 32 with h | h
              · rw [Nat.min_eq_left h, List.take_of_length_le (by simp), List.take_of_length_le (by simpa using h)]
              · rw [Nat.min_eq_right h]] at this)
          have HBF := hide (below_more HB2.out (by have := HBB.out; omega) HB'.out)
          go_wp2_with fail
          go_ret
          exact ⟨A', c', by rw [HOPL.out]; rfl, by rw [HOPL.out, HBB.out]; exact HF.out.more (by have := HB2.out.size; have := HBB.out; omega), by rw [HBB.out]; exact HBF.out⟩
end Go.Proofs.YtaibmfahfkoahaaGreat
