/- node.Where. A region that draws its order, whose last operations store into cells that it loads: S need not hold behind those operations. The walk's mathematics: each directory once, paths apart, how many steps. Every directory has one name: pure; for seats without All (else it stands in NdAl). -/
import Derived.Test.YtlcoapignfmgcaaGreatDoorGf
import Derived.Deep.RegionHeld3
namespace Go.Proofs.YtlcoapignfmgcaaGreatDoor
open Go.RowKit
set_option linter.unusedVariables false
theorem fnd_seen (m : Int) : ∀ (s : List ST), fndN m (seen (goN m) s) = fndN m s
  | [] => rfl
  | x :: t => by
    have ih := fnd_seen m t
    unfold fndN at ih ⊢
    rw [seen, List.find?_cons, List.find?_cons]
    by_cases hx : x.node = m
    · simp [hx]
    · have h2 : (x.node == m) = false := beq_eq_false_iff_ne.2 hx
      rw [h2]
      dsimp only
      rw [if_pos (by simp [goN, hx]), ih]
def whereP (l : List ND) (m : Int) : List UInt8 × Bool :=
  if checkB l = false then ([], false) else if m = 0 then ([47], true) else (wText (fndN m (wk l l.length [] 0)), (fndN m (wk l l.length [] 0)).isSome)
/-- What a file system that may be says of its walk. -/
theorem checkB_facts {l : List ND} (h : checkB l = true) : 1 ≤ l.length ∧ l.length ≤ 256 ∧ (∀ n ∈ l, nodeB n l.length = true) ∧ linksB l = true ∧ treeB l = true ∧ RefsOk l ∧ Deep l l.length 0 := by
  unfold checkB at h
  simp only [Bool.and_eq_true, decide_eq_true_eq] at h
  obtain ⟨⟨⟨⟨h1, h2⟩, h3⟩, h4⟩, h5⟩ := h
  have h3' := fun n hn => List.all_eq_true.1 h3 n hn
  exact ⟨h1, h2, h3', h4, h5, refs_of h3', deep_of_links (refs_of h3') h1 h4⟩
set_option maxRecDepth 100000 in
set_option maxHeartbeats 8000000 in
theorem where_any (L : Option Addr) (n c : Nat) (l : List DV) (m : Int) (w : World) (hF : FsR w w.heap.size L n l) (hB : FewB l) :
    Calls Tryz.prog 62 #[.agg #[.slice L n c], .int .i64 m] w fun e w' => e = .returned (.tuple #[.string ⟨(whereP (nds l) m).1.toArray⟩, .bool (whereP (nds l) m).2]) ∧ Below w.heap.size w w' := by
  have hl := hF.len
  have hln : (nds l).length = n := by rw [nds_length, hl]
  obtain ⟨W1, hW1⟩ : ∃ W, w.alloc (.cells #[.slice L n c] 24) = W := ⟨_, rfl⟩
  have b1 : Below w.heap.size w W1 := by rw [← hW1]; exact on_alloc _ _
  have k1 : Blk W1 w.heap.size 24 #[.slice L n c] := by rw [← hW1]; exact Blk.new w _ _
  have s1 : W1.heap.size = w.heap.size + 1 := by rw [← hW1]; simp
  obtain ⟨W2, hW2⟩ : ∃ W, W1.alloc (.cells #[.int .i64 m] 3) = W := ⟨_, rfl⟩
  have b2 : Below W1.heap.size W1 W2 := by rw [← hW2]; exact on_alloc _ _
  have k2 : Blk W2 (w.heap.size + 1) 3 #[.int .i64 m] := by rw [← hW2, ← s1]; exact Blk.new W1 _ _
  have k1' : Blk W2 w.heap.size 24 #[.slice L n c] := k1.below b2 (by omega)
  have bA : Below w.heap.size w W2 := b1.trans (b2.mono (by omega))
  have XC := hide (check_any L n c l W2 ((hF.below bA).more bA.size) hB)
  have HWK := hide (fun (hc : checkB (nds l) = true) (V : World) (rn a b : Nat) (hV : Below w.heap.size w V) (J : JW rn a b m [] (fun k => k = a ∨ k = b) V) (ha : w.heap.size ≤ a) (hb : w.heap.size ≤ b) =>
    walk_any (c := c) (L := L) (n := n) (l := l) (B0 := w.heap.size) (enters_of Tryz.func76 (by kernel_rfl) rfl) (checkB_facts hc).2.2.2.2.2.1 hB.each (visitW rn a b m n _) (fun s O V V' h hb => h.below hb) (fun s O V h => h.lt) (fun k => k = a ∨ k = b) V (hF.below hV) (fun k hk h => by omega) hV.size (by have h := (checkB_facts hc).2.2.2.2.2.2; rwa [hln] at h) (by have h := (checkB_facts hc).1; omega) (Nat.le_refl _) (fun x hx => small_wk hB (by have := hB.n; omega) x hx) J)
  have HBA := hide bA
  have HK1 := hide k1'
  have HK2 := hide k2
  obtain ⟨P, hP⟩ : ∃ P, whereP (nds l) m = P := ⟨_, rfl⟩
  rw [hP]
  have HP := hide hP
  have HLN := hide hln
  have k0 := one_ k1'
  have z0 := one_ k2
  have z9 := k2.lt
  have HS1 := s1
  clear hF hB hl hln hP b1 k1 b2 k2 k1' bA
  go_enter Tryz.func62, Tryz.ntmps62
  go_wp2_with fail
  refine XC.out.mono ?_
  rintro e w3 ⟨rfl, hb3⟩
  have s2 : W2.heap.size = w.heap.size + 2 := by rw [← hW2]; simp [HS1]
  have HB3 := hide (HBA.out.trans (hb3.mono HBA.out.size))
  have HK1 := hide (HK1.out.below hb3 HK1.out.lt)
  have HK2 := hide (HK2.out.below hb3 HK2.out.lt)
  clear hb3 XC k0 z0 z9
  have k0 := one_ HK1.out
  have z0 := one_ HK2.out
  have z9 := HK2.out.lt
  clear hW1 hW2 s1 s2 HS1
  cases hck : checkB (nds l) with
  | false =>
    have hPe : P = ([], false) := by rw [← HP.out]; unfold whereP; rw [if_pos hck]
    subst hPe
    clear hck
    go_wp2_with fail
    refine bodyPost_ret (v := .tuple #[.string ⟨#[]⟩, .bool false]) (by simp only [results, Tryz.results62]; go_simp) rfl ⟨rfl, HB3.out⟩
  | true =>
    have HCK := hide hck
    clear hck
    by_cases hm : m = 0
    · have hPe : P = ([47], true) := by rw [← HP.out]; unfold whereP; rw [if_neg (by rw [HCK.out]; simp), if_pos hm]
      subst hPe
      subst hm
      go_wp2_with fail
      refine bodyPost_ret (v := .tuple #[.string ⟨#[47]⟩, .bool true]) (by simp only [results, Tryz.results62]; go_simp) rfl ⟨rfl, HB3.out⟩
    · have hPe : P = (wText (fndN m (wk (nds l) n [] 0)), (fndN m (wk (nds l) n [] 0)).isSome) := by rw [← HP.out]; unfold whereP; rw [if_neg (by rw [HCK.out]; simp), if_neg hm, HLN.out]
      have HPE := hide hPe
      have hm2 : (m == 0) = false := beq_eq_false_iff_ne.2 hm
      have z8 := HK1.out.lt
      go_wp2_with fail
      obtain ⟨W4, hW4⟩ : ∃ W, w3.alloc (.cells #[.string ⟨#[]⟩] 9) = W := ⟨_, rfl⟩
      have b4 : Below w3.heap.size w3 W4 := by rw [← hW4]; exact on_alloc _ _
      have k4 : Blk W4 w3.heap.size 9 #[.string ⟨#[]⟩] := by rw [← hW4]; exact Blk.new w3 _ _
      have s4 : W4.heap.size = w3.heap.size + 1 := by rw [← hW4]; simp
      obtain ⟨W5, hW5⟩ : ∃ W, W4.alloc (.cells #[.bool false] 4) = W := ⟨_, rfl⟩
      have b5 : Below W4.heap.size W4 W5 := by rw [← hW5]; exact on_alloc _ _
      have k5 : Blk W5 (w3.heap.size + 1) 4 #[.bool false] := by rw [← hW5, ← s4]; exact Blk.new W4 _ _
      have k4' : Blk W5 w3.heap.size 9 #[.string ⟨#[]⟩] := k4.below b5 (by omega)
      have bB : Below w3.heap.size w3 W5 := b4.trans (b5.mono (by omega))
      have HN5 := hide (HK2.out.below bB HK2.out.lt)
      have HF5 := hide (HK1.out.below bB HK1.out.lt)
      have HB5 := hide (HB3.out.trans (bB.mono HB3.out.size))
      have hsz := HB3.out.size
      have hlt2 := HK2.out.lt
      have X := hide (HWK.out HCK.out W5 (w.heap.size + 1) w3.heap.size (w3.heap.size + 1) HB5.out ⟨fun k => Iff.rfl, HN5.out, k4', k5, by omega, by omega, by omega⟩ hsz (by omega))
      have z5 := k5.lt
      have z4 := k4'.lt
      clear HWK b4 k4 b5 k5 k4' bB hm HP hPe
      rw [hW4, hW5]
      with_reducible refine X.out.mono ?_
      rintro e w6 ⟨rfl, O6, J6, K6⟩
      have HB6 : Hid (Below w.heap.size w w6) := hide (HB5.out.trans (K6.below (fun k hk h => by omega) HB5.out.size))
      have r1 := one_ J6.w
      have r2 := one_ J6.f
      rw [fnd_seen] at r1 r2
      obtain ⟨T, hT⟩ : ∃ T, wText (fndN m (wk (nds l) n [] 0)) = T := ⟨_, rfl⟩
      obtain ⟨b, hb⟩ : ∃ b, (fndN m (wk (nds l) n [] 0)).isSome = b := ⟨_, rfl⟩
      rw [hT] at r1
      rw [hb] at r2
      have hPe := HPE.out
      rw [hT, hb] at hPe
      subst hPe
      clear J6 K6 X hT hb HPE k0 z0 z9 hW4 hW5 s4 z5 z4
      go_wp2_with fail
      go_quiet (fail)
      go_wp2_with fail
      refine bodyPost_ret (v := .tuple #[.string ⟨T.toArray⟩, .bool b]) (by simp only [results, Tryz.results62]; go_simp) rfl ⟨rfl, bl_drewN HB6.out⟩
end Go.Proofs.YtlcoapignfmgcaaGreatDoor
namespace Go.Proofs.YtlcoapignfmgcaaGreatDoor
open Go
set_option linter.unusedVariables false
section
variable {P : Program} {ops : Array Oper} {Q : Exit → Act → World → Prop} {md : Region.Mode} {S : World → Prop} {L : List Nat}
def wpAnyK (P : Program) (md : Region.Mode) (ops : Array Oper) (Q : Exit → Act → World → Prop) (S : World → Prop) (L : List Nat) : Nat → Array Bool → Act → World → Prop
  | 0, listed, a, w => Region.ready md ops listed = [] ∧ Q .normal a w
  | fuel + 1, listed, a, w =>
    (Region.ready md ops listed = [] → Q .normal a w) ∧
    ∀ i ∈ Region.ready md ops listed, wpOp P ops Q i (fun a' w' => (S w → i ∉ L → S w') ∧ wpAnyK P md ops Q S L fuel (listed.setIfInBounds i true) a' w') a w
theorem wpAny_of_K : ∀ (fuel : Nat) (listed : Array Bool) (a : Act) (w : World), wpAnyK P md ops Q S L fuel listed a w → wpAny P md ops Q fuel listed a w
  | 0, _, _, _, h => h
  | fuel + 1, _, _, _, h => ⟨h.1, fun i hi => wpOp_mono (fun a' w' h' => wpAny_of_K fuel _ a' w' h'.2) (h.2 i hi)⟩
/-- Does k wait for i? -/
def anc (md : Region.Mode) (ops : Array Oper) (i : Nat) : Nat → Nat → Bool
  | 0, _ => false
  | f + 1, k => match ops[k]? with
    | none => false
    | some o => o.after.any fun e => Region.binds md e && (e.on == i || anc md ops i f e.on)
/-- Whatever has come up has come up behind what it waits for. -/
def Closed (md : Region.Mode) (ops : Array Oper) (listed : Array Bool) : Prop := ∀ k o, ops[k]? = some o → listed.getD k false = true → ∀ e ∈ o.after, Region.binds md e = true → listed.getD e.on false = true
theorem anc_spec {listed : Array Bool} {i : Nat} (hc : Closed md ops listed) : ∀ (f k : Nat) o, ops[k]? = some o → (∀ e ∈ o.after, Region.binds md e = true → listed.getD e.on false = true) → anc md ops i f k = true → listed.getD i false = true
  | 0, k, o, hk, hd, h => by simp [anc] at h
  | f + 1, k, o, hk, hd, h => by
    simp only [anc, hk] at h
    rw [Array.any_eq_true'] at h
    obtain ⟨e, he, h⟩ := h
    simp only [Bool.and_eq_true, Bool.or_eq_true, beq_iff_eq] at h
    obtain ⟨hb, h⟩ := h
    have h1 := hd e he hb
    rcases h with h | h
    · rw [← h]; exact h1
    · have hs : ∃ o', ops[e.on]? = some o' := by
        cases hx : ops[e.on]? with
        | none =>
          cases f with
          | zero => simp [anc] at h
          | succ f => simp [anc, hx] at h
        | some o' => exact ⟨o', rfl⟩
      obtain ⟨o', ho'⟩ := hs
      exact anc_spec hc f e.on o' ho' (hc e.on o' ho' h1) h
theorem Closed.set {listed : Array Bool} {j : Nat} (hc : Closed md ops listed) (hj : j ∈ Region.ready md ops listed) : Closed md ops (listed.setIfInBounds j true) := by
  obtain ⟨h0, oj, hoj, hall⟩ := mem_ready.1 hj
  intro k o hk hl e he hb
  by_cases hkj : k = j
  · subst hkj
    rw [hoj] at hk; injection hk with hk; subst hk
    exact getD_set_true (hall e he hb)
  · rw [getD_set_ne false (Ne.symm hkj)] at hl
    exact getD_set_true (hc k o hk hl e he hb)
theorem not_both {listed : Array Bool} {i : Nat} (h : listed.getD i true = false) (h' : listed.getD i false = true) : False := by
  rcases Nat.lt_or_ge i listed.size with hl | hl
  · simp [hl] at h h'; rw [h] at h'; cases h'
  · simp [Array.getElem?_eq_none hl] at h
theorem wpAnyK_first {i : Nat} {oi : Oper} {v : Value} {f0 : Nat} (hi : ops[i]? = some oi) (hiL : i ∉ L) (hanc : ∀ k ∈ L, anc md ops i f0 k = true) (hsel : ∀ (j : Nat) (o : Oper) cs b, ops[j]? = some o → o.op ≠ .select cs b)
    (hQ : ∀ c a w, Q (.panic c) (a.put oi.dst v) w → Q (.panic c) a w) :
    ∀ (fuel : Nat) (listed : Array Bool) (a : Act) (w : World), Closed md ops listed →
      (∀ j oj, ops[j]? = some oj → j ≠ i → listed.getD j true = false → (∀ e ∈ oj.after, Region.binds md e = true → e.on ≠ i) → oi.apart ops oj = true) →
      i ∈ Region.ready md ops listed → YieldsIf P ops S oi v a → S w →
      wpAnyK P md ops Q S L fuel (listed.setIfInBounds i true) (a.put oi.dst v) w → wpAnyK P md ops Q S L (fuel + 1) listed a w := by
  intro fuel
  induction fuel with
  | zero =>
    intro listed a w _ _ hr hy hS H
    refine ⟨fun h => (by rw [h] at hr; cases hr), fun j hj => ?_⟩
    by_cases hji : j = i
    · subst hji; exact hy.wpOp hi hS ⟨fun _ _ => hS, H⟩
    · have := ready_mono hj hji
      rw [H.1] at this
      cases this
  | succ fuel ih =>
    intro listed a w hcl hfree hr hy hS H
    refine ⟨fun h => (by rw [h] at hr; cases hr), fun j hj => ?_⟩
    by_cases hji : j = i
    · subst hji; exact hy.wpOp hi hS ⟨fun _ _ => hS, H⟩
    · have h1 := H.2 j (ready_mono hj hji)
      obtain ⟨hjun, oj, hoj, hall⟩ := mem_ready.1 hj
      have hjL : j ∉ L := fun hj =>
        not_both (mem_ready.1 hr).1 (anc_spec hcl f0 j oj hoj hall (hanc j hj))
      have hnot : ∀ e ∈ oj.after, Region.binds md e = true → e.on ≠ i := fun e he hb heq => by
        have h1 := hall e he hb
        rw [heq] at h1
        exact not_both (mem_ready.1 hr).1 h1
      have h2 := wpOp_putIf hoj (hfree j oj hoj hji hjun hnot) (fun cs b => hsel i oi cs b hi) (fun cs b => hsel j oj cs b hoj) hQ hy h1
      have hfree' : ∀ k ok, ops[k]? = some ok → k ≠ i → (listed.setIfInBounds j true).getD k true = false →
          (∀ e ∈ ok.after, Region.binds md e = true → e.on ≠ i) → oi.apart ops ok = true := fun k ok hk hki hun hno => by
        refine hfree k ok hk hki ?_ hno
        by_cases hjk : j = k
        · subst hjk; exact hjun
        · rw [getD_set_ne true hjk] at hun; exact hun
      refine wpOp_mono (fun a' w' h3 => ⟨fun hS0 _ => h3.2.1 hS0 hjL, ih (listed.setIfInBounds j true) a' w' (hcl.set hj) hfree' (ready_mono hr (Ne.symm hji)) h3.1 (h3.2.1 hS hjL) ?_⟩) h2
      rw [Array.setIfInBounds_comm _ _ hji]
      exact h3.2.2
theorem wpAnyK_free {i : Nat} {oi : Oper} {v : Value} (hi : ops[i]? = some oi) (hsel : ∀ (j : Nat) (o : Oper) cs b, ops[j]? = some o → o.op ≠ .select cs b)
    (hQ : ∀ c a w, Q (.panic c) (a.put oi.dst v) w → Q (.panic c) a w) :
    ∀ (fuel : Nat) (listed : Array Bool) (a : Act) (w : World), Closed md ops listed →
      (∀ j oj, ops[j]? = some oj → j ≠ i → listed.getD j true = false → (∀ e ∈ oj.after, Region.binds md e = true → e.on ≠ i) → oi.apart ops oj = true) →
      i ∈ Region.ready md ops listed → YieldsIf P ops (fun _ => True) oi v a →
      wpAnyK P md ops Q S L fuel (listed.setIfInBounds i true) (a.put oi.dst v) w → wpAnyK P md ops Q S L (fuel + 1) listed a w := by
  intro fuel
  induction fuel with
  | zero =>
    intro listed a w _ _ hr hy H
    refine ⟨fun h => (by rw [h] at hr; cases hr), fun j hj => ?_⟩
    by_cases hji : j = i
    · subst hji; exact hy.wpOp hi trivial ⟨fun h _ => h, H⟩
    · have := ready_mono hj hji
      rw [H.1] at this
      cases this
  | succ fuel ih =>
    intro listed a w hcl hfree hr hy H
    refine ⟨fun h => (by rw [h] at hr; cases hr), fun j hj => ?_⟩
    by_cases hji : j = i
    · subst hji; exact hy.wpOp hi trivial ⟨fun h _ => h, H⟩
    · have h1 := H.2 j (ready_mono hj hji)
      obtain ⟨hjun, oj, hoj, hall⟩ := mem_ready.1 hj
      have hnot : ∀ e ∈ oj.after, Region.binds md e = true → e.on ≠ i := fun e he hb heq => by
        have h1 := hall e he hb
        rw [heq] at h1
        exact not_both (mem_ready.1 hr).1 h1
      have h2 := wpOp_putIf hoj (hfree j oj hoj hji hjun hnot) (fun cs b => hsel i oi cs b hi) (fun cs b => hsel j oj cs b hoj) hQ hy h1
      have hfree' : ∀ k ok, ops[k]? = some ok → k ≠ i → (listed.setIfInBounds j true).getD k true = false →
          (∀ e ∈ ok.after, Region.binds md e = true → e.on ≠ i) → oi.apart ops ok = true := fun k ok hk hki hun hno => by
        refine hfree k ok hk hki ?_ hno
        by_cases hjk : j = k
        · subst hjk; exact hjun
        · rw [getD_set_ne true hjk] at hun; exact hun
      refine wpOp_mono (fun a' w' h3 => ⟨h3.2.1, ih (listed.setIfInBounds j true) a' w' (hcl.set hj) hfree' (ready_mono hr (Ne.symm hji)) h3.1 ?_⟩) h2
      rw [Array.setIfInBounds_comm _ _ hji]
      exact h3.2.2
def closedB (md : Region.Mode) (ops : Array Oper) (listed : Array Bool) : Bool := (List.range ops.size).all fun k => !listed.getD k false || ((ops[k]?).map fun o => o.after.all fun e => !Region.binds md e || listed.getD e.on false).getD true
theorem closedB_spec {listed : Array Bool} (h : closedB md ops listed = true) : Closed md ops listed := by
  intro k o hk hl e he hb
  have hlt : k < ops.size := (Array.getElem?_eq_some_iff.1 hk).1
  have := List.all_eq_true.1 h k (List.mem_range.2 hlt)
  simp only [hl, hk, Bool.not_true, Bool.false_or, Option.map_some, Option.getD_some, Array.all_eq_true_iff_forall_mem] at this
  have := this e he
  simpa [hb] using this
theorem wpAnyK_take {l : List Oper} {i : Nat} {oi : Oper} {v : Value} {fuel : Nat} {listed : Array Bool} {a : Act} {w : World} (hi : l[i]? = some oi) (hi' : l.toArray[i]? = l[i]?)
    (hb : (L.all (fun k => i != k && anc md l.toArray i l.length k) && Region.noSelect l.toArray && closedB md l.toArray listed && Region.free md l.toArray listed i && (Region.ready md l.toArray listed).contains i) = true)
    (hQ : ∀ c a w, Q (.panic c) (a.put oi.dst v) w → Q (.panic c) a w) (hy : YieldsIf P l.toArray S oi v a) (hS : S w)
    (h : wpAnyK P md l.toArray Q S L fuel (listed.setIfInBounds i true) (a.put oi.dst v) w) : wpAnyK P md l.toArray Q S L (fuel + 1) listed a w := by
  simp only [Bool.and_eq_true] at hb
  obtain ⟨⟨⟨⟨h1, h3⟩, h4⟩, h5⟩, h6⟩ := hb
  have h12 : ∀ k ∈ L, i ≠ k ∧ anc md l.toArray i l.length k = true := fun k hk => by
    have := List.all_eq_true.1 h1 k hk
    simpa [bne_iff_ne] using this
  exact wpAnyK_first (hi'.trans hi) (fun hk => (h12 i hk).1 rfl) (fun k hk => (h12 k hk).2) (Region.noSelect_spec h3) hQ fuel listed a w (closedB_spec h4) (Region.free_spec (hi'.trans hi) h5) (by simpa using h6) hy hS h
/-- An operation that reads nothing is taken first. -/
theorem wpAnyK_takeF {l : List Oper} {i : Nat} {oi : Oper} {v : Value} {fuel : Nat} {listed : Array Bool} {a : Act} {w : World} (hi : l[i]? = some oi) (hi' : l.toArray[i]? = l[i]?)
    (hb : (Region.noSelect l.toArray && closedB md l.toArray listed && Region.free md l.toArray listed i && (Region.ready md l.toArray listed).contains i) = true)
    (hQ : ∀ c a w, Q (.panic c) (a.put oi.dst v) w → Q (.panic c) a w) (hy : YieldsIf P l.toArray (fun _ => True) oi v a)
    (h : wpAnyK P md l.toArray Q S L fuel (listed.setIfInBounds i true) (a.put oi.dst v) w) : wpAnyK P md l.toArray Q S L (fuel + 1) listed a w := by
  simp only [Bool.and_eq_true] at hb
  obtain ⟨⟨⟨h3, h4⟩, h5⟩, h6⟩ := hb
  exact wpAnyK_free (hi'.trans hi) (Region.noSelect_spec h3) hQ fuel listed a w (closedB_spec h4) (Region.free_spec (hi'.trans hi) h5) (by simpa using h6) hy h
/-- One operation alone may come up. -/
theorem wpAnyK_step {l : List Oper} {i : Nat} {o : Oper} {fuel : Nat} {listed : Array Bool} {a : Act} {w : World} (hr : Region.ready md l.toArray listed = [i]) (ho : l[i]? = some o) (hi' : l.toArray[i]? = l[i]?)
    (h : ∀ K' : Act → World → Prop, Shut (∀ a' w', (S w → i ∉ L → S w') → wpAnyK P md l.toArray Q S L fuel (listed.setIfInBounds i true) a' w' → K' a' w') → if Region.wanted o (yielded l.toArray a.tmps) = true then Oper.wp P o a w K' Q else K' (a.put o.dst undef) w) :
    wpAnyK P md l.toArray Q S L (fuel + 1) listed a w := by
  refine ⟨fun h0 => (by rw [hr] at h0; cases h0), fun j hj => ?_⟩
  rw [hr] at hj
  obtain rfl : j = i := by simpa using hj
  exact wpOp_step (hi'.trans ho) (fun K' hK => h K' (fun a w hS hW => hK a w ⟨hS, hW⟩))
theorem wpAnyK_done {listed : Array Bool} {a : Act} {w : World} (hr : Region.ready md ops listed = []) (h : Q .normal a w) : ∀ fuel, wpAnyK P md ops Q S L fuel listed a w
  | 0 => ⟨hr, h⟩
  | _ + 1 => ⟨fun _ => h, by rw [hr]; simp⟩
theorem wp_region_K {l : List Oper} (S : World → Prop) (L : List Nat) {id : Nat} {a : Act} {w : World} (hm : P.follows .mixedOrders = true) (hS : S w.drew)
    (h : S w.drew → wpAnyK P .any l.toArray Q S L l.length (List.replicate l.length false).toArray a w.drew) : (Code.region id l.toArray true).wp P Q a w := by
  have h := h hS
  refine wp_region_any hm (wpAny_of_K (S := S) (L := L) _ _ _ _ ?_)
  have e1 : l.toArray.size = l.length := by simp
  have e2 : Array.replicate l.toArray.size false = (List.replicate l.length false).toArray := by simp
  rw [e1] at e2 ⊢
  rw [e2]
  exact h
end
end Go.Proofs.YtlcoapignfmgcaaGreatDoor
namespace Go.Proofs.YtlcoapignfmgcaaGreatDoor
set_option linter.unusedVariables false
/-- The names that lead to a step. -/
def pth (x : ST) : List (List UInt8) := x.up ++ [x.name]
def NamesOk (l : List ND) : Prop := ∀ d ∈ l, d.names.Pairwise fun a b => a.name ≠ b.name
theorem names_above (c : Int) : ∀ (t : List NM) (p : List UInt8), namesFrom c (some p) t = true → ∀ y ∈ t, p < y.name
  | [], _, _, y, hy => by cases hy
  | x :: t, p, h, y, hy => by
    simp only [namesFrom, Bool.and_eq_true, decide_eq_true_eq] at h
    rcases List.mem_cons.1 hy with rfl | hy
    · exact h.1.2
    · exact List.lt_trans h.1.2 (names_above c t _ h.2 y hy)
theorem names_sorted (c : Int) : ∀ (t : List NM) (p : Option (List UInt8)), namesFrom c p t = true → t.Pairwise fun a b => a.name < b.name
  | [], _, _ => .nil
  | x :: t, p, h => by
    simp only [namesFrom, Bool.and_eq_true] at h
    exact .cons (names_above c t _ h.2) (names_sorted c t _ h.2)
theorem nodeB_sorted {n : ND} {c : Int} (h : nodeB n c = true) : n.names.Pairwise fun a b => a.name < b.name := by
  unfold nodeB at h
  simp only [Bool.and_eq_true] at h
  obtain ⟨-, h⟩ := h
  split at h
  · simp only [Bool.and_eq_true, List.isEmpty_iff] at h
    rw [h.1.2]; exact .nil
  · split at h
    · simp only [Bool.and_eq_true] at h
      exact names_sorted c _ _ h.1.1
    · split at h
      · simp only [Bool.and_eq_true, List.isEmpty_iff] at h
        rw [h.2]; exact .nil
      · cases h
theorem namesOk_of {l : List ND} (h : ∀ n ∈ l, nodeB n l.length = true) : NamesOk l := fun d hd =>
  (nodeB_sorted (h d hd)).imp fun hlt e => by rw [e] at hlt; exact List.lt_irrefl _ hlt
theorem names_at {l : List ND} (h : NamesOk l) (d : Int) : (ndAt l d).names.Pairwise fun a b => a.name ≠ b.name := by
  by_cases hd : d.toNat < l.length
  · refine h _ ?_
    unfold ndAt
    rw [List.getD_eq_getElem?_getD, List.getElem?_eq_getElem hd]
    exact List.getElem_mem _
  · rw [ndAt_out (by omega)]; exact .nil
theorem wkN_pre {l : List ND} (k : Nat) (us : List (List UInt8)) (d : Int) (y : NM) (hw : ∀ x ∈ wk l k (us ++ [y.name]) y.node, ∃ n r, pth x = (us ++ [y.name]) ++ n :: r) : ∀ x ∈ wkN l k us d y, ∃ r, pth x = us ++ y.name :: r := fun x hx => by
  unfold wkN at hx
  rcases List.mem_cons.1 hx with rfl | hx
  · exact ⟨[], rfl⟩
  · split at hx
    · obtain ⟨n, r, e⟩ := hw x hx
      exact ⟨n :: r, by rw [e]; simp⟩
    · cases hx
theorem wk_pre {l : List ND} : ∀ (k : Nat) (us : List (List UInt8)) (d : Int), ∀ x ∈ wk l k us d, ∃ n r, pth x = us ++ n :: r
  | 0, us, d, x, hx => by cases hx
  | k + 1, us, d, x, hx => by
    rw [wk_succ] at hx
    obtain ⟨y, hy, hx⟩ := List.mem_flatMap.1 hx
    obtain ⟨r, e⟩ := wkN_pre k us d y (wk_pre k _ _) x hx
    exact ⟨_, r, e⟩
theorem paths_apart {l : List ND} (hn : NamesOk l) : ∀ (k : Nat) (us : List (List UInt8)) (d : Int), (wk l k us d).Pairwise fun x y => pth x ≠ pth y
  | 0, us, d => .nil
  | k + 1, us, d => by
    rw [wk_succ, List.pairwise_flatMap]
    refine ⟨fun y hy => ?_, ?_⟩
    · unfold wkN
      refine .cons (fun z hz e => ?_) ?_
      · split at hz
        · obtain ⟨n, r, e2⟩ := wk_pre k _ _ z hz
          rw [e2] at e
          have := congrArg List.length e
          unfold pth at this
          simp at this
        · cases hz
      · split
        · exact paths_apart hn k _ _
        · exact .nil
    · refine (names_at hn d).imp fun {a b} hab x hx z hz e => ?_
      obtain ⟨r1, e1⟩ := wkN_pre k us d a (wk_pre k _ _) x hx
      obtain ⟨r2, e2⟩ := wkN_pre k us d b (wk_pre k _ _) z hz
      rw [e1, e2] at e
      have := List.append_cancel_left e
      injection this with h1 h2
      exact hab h1
/-- Where a step comes from. -/
theorem wk_up {l : List ND} : ∀ (k : Nat) (us : List (List UInt8)) (d : Int), ∀ x ∈ wk l k us d,
    (x.dir = d ∧ x.up = us ∧ ∃ y ∈ (ndAt l d).names, y.name = x.name ∧ y.node = x.node) ∨ ∃ z ∈ wk l k us d, isDir l z.node = true ∧ x.dir = z.node ∧ x.up = pth z ∧ ∃ y ∈ (ndAt l z.node).names, y.name = x.name ∧ y.node = x.node
  | 0, us, d, x, hx => by cases hx
  | k + 1, us, d, x, hx => by
    rw [wk_succ] at hx ⊢
    obtain ⟨y, hy, hx⟩ := List.mem_flatMap.1 hx
    have hx2 := hx
    unfold wkN at hx
    rcases List.mem_cons.1 hx with rfl | hx
    · exact .inl ⟨rfl, rfl, y, hy, rfl, rfl⟩
    · by_cases hd : isDir l y.node = true
      · rw [if_pos hd] at hx
        rcases wk_up k _ _ x hx with ⟨h1, h2, h3⟩ | ⟨z, hz, h1⟩
        · exact .inr ⟨⟨d, y.name, y.node, us⟩, List.mem_flatMap.2 ⟨y, hy, List.mem_cons_self ..⟩, hd, h1, h2, h3⟩
        · exact .inr ⟨z, List.mem_flatMap.2 ⟨y, hy, by unfold wkN; rw [if_pos hd]; exact List.mem_cons_of_mem _ hz⟩, h1⟩
      · rw [if_neg hd] at hx; cases hx
theorem wk_name {l : List ND} {k : Nat} {us : List (List UInt8)} {d : Int} {x : ST} (hx : x ∈ wk l k us d) : ∃ y ∈ (ndAt l x.dir).names, y.name = x.name ∧ y.node = x.node := by
  rcases wk_up k us d x hx with ⟨h1, _, h3⟩ | ⟨z, _, _, h1, _, h3⟩
  · rw [h1]; exact h3
  · rw [h1]; exact h3
theorem name_uniq {l : List ND} {d e : Int} {a b : NM} (ha : a ∈ (ndAt l d).names) (hb : b ∈ (ndAt l d).names) (ea : a.node = e) (eb : b.node = e) (h : cnt l e ≤ 1) : a = b := by
  obtain ⟨hd, hm⟩ := ndAt_mem ha
  have h1 : (ndAt l d).names.countP (fun x => x.node == e) ≤ cnt l e := by
    unfold cnt allNames
    obtain ⟨s, t, hst⟩ := List.append_of_mem hm
    conv => rhs; rw [hst]
    rw [List.flatMap_append, List.flatMap_cons, List.countP_append, List.countP_append]
    omega
  rw [List.countP_eq_length_filter] at h1
  have ma : a ∈ (ndAt l d).names.filter (fun x => x.node == e) := List.mem_filter.2 ⟨ha, by simp [ea]⟩
  have mb : b ∈ (ndAt l d).names.filter (fun x => x.node == e) := List.mem_filter.2 ⟨hb, by simp [eb]⟩
  match hf : (ndAt l d).names.filter (fun x => x.node == e) with
  | [] => rw [hf] at ma; cases ma
  | [x] => rw [hf] at ma mb; rw [List.mem_singleton.1 ma, List.mem_singleton.1 mb]
  | x :: y :: t => rw [hf] at h1; simp at h1; omega
/-- What a checked file system's counts say. -/
structure One (l : List ND) : Prop where
  r : RefsOk l
  z : cnt l 0 = 0
  u : ∀ i : Int, isDir l i = true → cnt l i ≤ 1
theorem One.no_root {l : List ND} (h : One l) {k : Nat} {us : List (List UInt8)} {d : Int} {x : ST} (hx : x ∈ wk l k us d) : x.node ≠ 0 := fun e => by
  obtain ⟨y, hy, _, e2⟩ := wk_name hx
  obtain ⟨hd, _⟩ := ndAt_mem hy
  have := cnt_one (d := 0) hd hy (e2.trans e)
  have := h.z
  omega
theorem One.node_in {l : List ND} (h : One l) {k : Nat} {us : List (List UInt8)} {d : Int} {x : ST} (hx : x ∈ wk l k us d) : 0 ≤ x.node ∧ x.node < (l.length : Int) := by
  obtain ⟨y, hy, _, e2⟩ := wk_name hx
  rw [← e2]
  exact h.r _ (ndAt_mem hy).2 y hy
theorem step_uniq {l : List ND} (h : One l) {k : Nat} : ∀ (m : Nat) (x y : ST), x.up.length ≤ m → x ∈ wk l k [] 0 → y ∈ wk l k [] 0 → x.node = y.node → isDir l x.node = true → x = y := by
  intro m
  induction m with
  | zero =>
    intro x y hm hx hy e hd
    rcases wk_up k [] 0 x hx with ⟨a1, a2, a, ha, a3, a4⟩ | ⟨z, hz, b1, b2, b3, _⟩
    · rcases wk_up k [] 0 y hy with ⟨c1, c2, c, hc, c3, c4⟩ | ⟨z, hz, c1, c2, c3, c, hc, c4, c5⟩
      · have : a = c := name_uniq ha hc a4 (c4.trans e.symm) (h.u _ hd)
        subst this
        obtain ⟨xd, xn, xo, xu⟩ := x
        obtain ⟨yd, yn, yo, yu⟩ := y
        dsimp only at *
        subst a1 a2 c1 c2 a3 c3 e
        rfl
      · exact absurd (child_up h.r h.u (Int.le_refl 0) (h.node_in hz).1 ⟨hd, a, ha, a4⟩ ⟨hd, c, hc, c5.trans e.symm⟩).symm (h.no_root hz)
    · rw [b3] at hm
      unfold pth at hm
      simp at hm
  | succ m ih =>
    intro x y hm hx hy e hd
    rcases wk_up k [] 0 x hx with ⟨a1, a2, a, ha, a3, a4⟩ | ⟨z, hz, b1, b2, b3, b, hb, b4, b5⟩
    · rcases wk_up k [] 0 y hy with ⟨c1, c2, c, hc, c3, c4⟩ | ⟨z, hz, c1, c2, c3, c, hc, c4, c5⟩
      · have : a = c := name_uniq ha hc a4 (c4.trans e.symm) (h.u _ hd)
        subst this
        obtain ⟨xd, xn, xo, xu⟩ := x
        obtain ⟨yd, yn, yo, yu⟩ := y
        dsimp only at *
        subst a1 a2 c1 c2 a3 c3 e
        rfl
      · exact absurd (child_up h.r h.u (Int.le_refl 0) (h.node_in hz).1 ⟨hd, a, ha, a4⟩ ⟨hd, c, hc, c5.trans e.symm⟩).symm (h.no_root hz)
    · rcases wk_up k [] 0 y hy with ⟨c1, c2, c, hc, c3, c4⟩ | ⟨z', hz', c1, c2, c3, c, hc, c4, c5⟩
      · exact absurd (child_up h.r h.u (h.node_in hz).1 (Int.le_refl 0) ⟨hd, b, hb, b5⟩ ⟨hd, c, hc, c4.trans e.symm⟩) (h.no_root hz)
      · have hzz := child_up h.r h.u (h.node_in hz).1 (h.node_in hz').1 ⟨hd, b, hb, b5⟩ ⟨hd, c, hc, c5.trans e.symm⟩
        have hz2 : z = z' := ih z z' (by rw [b3] at hm; unfold pth at hm; simp at hm; omega) hz hz' hzz b1
        subst hz2
        have : b = c := name_uniq hb hc b5 (c5.trans e.symm) (h.u _ hd)
        subst this
        obtain ⟨xd, xn, xo, xu⟩ := x
        obtain ⟨yd, yn, yo, yu⟩ := y
        dsimp only at *
        subst b2 b3 c2 c3 b4 c4 e
        rfl
def dirsOf (l : List ND) (s : List ST) : List Int := (s.filter fun x => isDir l x.node).map ST.node
def sumN (l : List ND) (D : List Int) : Nat := (D.map fun d => (ndAt l d).names.length).sum
theorem dirsOf_append (l : List ND) (a b : List ST) : dirsOf l (a ++ b) = dirsOf l a ++ dirsOf l b := by simp [dirsOf]
theorem sumN_append (l : List ND) (a b : List Int) : sumN l (a ++ b) = sumN l a + sumN l b := by simp [sumN]
theorem wk_len {l : List ND} : ∀ (k : Nat) (us : List (List UInt8)) (d : Int), Deep l k d → (wk l k us d).length = (ndAt l d).names.length + sumN l (dirsOf l (wk l k us d))
  | 0, us, d, h => absurd h (by simp [Deep])
  | k + 1, us, d, h => by
    rw [wk_succ]
    have hh : ∀ y ∈ (ndAt l d).names, isDir l y.node = true → Deep l k y.node := h
    generalize (ndAt l d).names = t at hh
    induction t with
    | nil => rfl
    | cons y t ih =>
      have h1 := ih (fun z hz => hh z (List.mem_cons_of_mem _ hz))
      rw [List.flatMap_cons, List.length_append, dirsOf_append, sumN_append, h1, List.length_cons]
      have h2 : (wkN l k us d y).length = 1 + sumN l (dirsOf l (wkN l k us d y)) := by
        unfold wkN
        by_cases hd : isDir l y.node = true
        · rw [if_pos hd, List.length_cons, wk_len k _ _ (hh y (List.mem_cons_self ..) hd)]
          have e : dirsOf l (⟨d, y.name, y.node, us⟩ :: wk l k (us ++ [y.name]) y.node) = y.node :: dirsOf l (wk l k (us ++ [y.name]) y.node) := by
            unfold dirsOf
            rw [List.filter_cons, if_pos hd]
            rfl
          rw [e]
          simp only [sumN, List.map_cons, List.sum_cons]
          omega
        · rw [if_neg hd]
          have e : dirsOf l [(⟨d, y.name, y.node, us⟩ : ST)] = [] := by
            unfold dirsOf
            rw [List.filter_cons, if_neg hd]
            rfl
          rw [e]
          rfl
      omega
/-- The directories that the walk goes into. -/
def DD (l : List ND) (k : Nat) : List Int := 0 :: dirsOf l (wk l k [] 0)
theorem dd_nodup {l : List ND} (h : One l) (hn : NamesOk l) (k : Nat) : (DD l k).Nodup := by
  unfold DD
  refine List.nodup_cons.2 ⟨fun h0 => ?_, ?_⟩
  · unfold dirsOf at h0
    obtain ⟨x, hx, e⟩ := List.mem_map.1 h0
    exact h.no_root (List.mem_filter.1 hx).1 e
  · unfold dirsOf List.Nodup
    rw [List.pairwise_map]
    have h1 : ((wk l k [] 0).filter fun x => isDir l x.node).Pairwise fun x y => pth x ≠ pth y := (paths_apart hn k [] 0).filter _
    refine h1.imp_of_mem fun {x y} hx hy hp e => hp ?_
    obtain ⟨mx, dx⟩ := List.mem_filter.1 hx
    obtain ⟨my, dy⟩ := List.mem_filter.1 hy
    rw [step_uniq h _ x y (Nat.le_refl _) mx my e dx]
theorem dd_in {l : List ND} (h : One l) (hp : 0 < l.length) (k : Nat) : ∀ d ∈ DD l k, 0 ≤ d ∧ d < (l.length : Int) := fun d hd => by
  unfold DD at hd
  rcases List.mem_cons.1 hd with rfl | hd
  · omega
  · unfold dirsOf at hd
    obtain ⟨x, hx, e⟩ := List.mem_map.1 hd
    rw [← e]
    exact h.node_in (List.mem_filter.1 hx).1
theorem subset_perm {α : Type} [DecidableEq α] : ∀ (D R : List α), D.Nodup → (∀ x ∈ D, x ∈ R) → ∃ R', R.Perm (D ++ R')
  | [], R, _, _ => ⟨R, .refl _⟩
  | d :: D, R, hn, hs => by
    obtain ⟨h1, h2⟩ := List.nodup_cons.1 hn
    have hd := hs d (List.mem_cons_self ..)
    obtain ⟨R', hR⟩ := subset_perm D (R.erase d) h2 (fun x hx => (List.mem_erase_of_ne (fun e => h1 (by rw [← e]; exact hx))).2 (hs x (List.mem_cons_of_mem _ hx)))
    exact ⟨R', (List.perm_cons_erase hd).trans (hR.cons d)⟩
def allI (l : List ND) : List Int := (List.range l.length).map fun (i : Nat) => (i : Int)
theorem allI_mem {l : List ND} {d : Int} : d ∈ allI l ↔ 0 ≤ d ∧ d < (l.length : Int) := by
  unfold allI
  rw [List.mem_map]
  constructor
  · rintro ⟨i, hi, rfl⟩
    have := List.mem_range.1 hi
    omega
  · rintro ⟨h1, h2⟩
    exact ⟨d.toNat, List.mem_range.2 (by omega), by omega⟩
theorem allI_nodup (l : List ND) : (allI l).Nodup := by
  unfold allI List.Nodup
  rw [List.pairwise_map]
  exact List.nodup_range.imp fun {a b} h e => h (by omega)
theorem ndAt_nat (l : List ND) (i : Nat) : ndAt l (i : Int) = l.getD i nd0 := rfl
theorem sum_all (f : ND → Nat) (l : List ND) : ((allI l).map fun d => f (ndAt l d)).sum = (l.map f).sum := by
  unfold allI
  rw [List.map_map]
  have e : ((List.range l.length).map ((fun d => f (ndAt l d)) ∘ fun (i : Nat) => (i : Int))) = l.map f := by
    apply List.ext_getElem
    · simp
    · intro i h1 h2
      simp only [List.getElem_map, List.getElem_range, Function.comp]
      rw [ndAt_nat, List.getD_eq_getElem?_getD, List.getElem?_eq_getElem (by simpa using h2)]
      rfl
  rw [e]
theorem allNames_length (l : List ND) : (allNames l).length = (l.map fun n => n.names.length).sum := by
  unfold allNames
  rw [List.length_flatMap]
theorem wk_few {l : List ND} (h : One l) (hn : NamesOk l) (hp : 0 < l.length) {k : Nat} (hd : Deep l k 0) : (wk l k [] 0).length ≤ (allNames l).length := by
  rw [wk_len k [] 0 hd, allNames_length, ← sum_all]
  obtain ⟨R', hR⟩ := subset_perm (DD l k) (allI l) (dd_nodup h hn k) (fun x hx => allI_mem.2 (dd_in h hp k x hx))
  have h1 := (hR.map fun d => (ndAt l d).names.length).sum_nat
  rw [h1, List.map_append, List.sum_append]
  unfold DD sumN
  simp only [List.map_cons, List.sum_cons]
  omega
end Go.Proofs.YtlcoapignfmgcaaGreatDoor
namespace Go.Proofs.YtlcoapignfmgcaaGreatDoor
set_option linter.unusedVariables false
theorem one_of {l : List ND} (h : checkB l = true) : One l := by
  obtain ⟨h1, h2, h3, hl, h5, hr, h7⟩ := checkB_facts h
  have hall : ∀ j, j < l.length → linkB l j = true := fun j hj => List.all_eq_true.1 hl j (List.mem_range.2 hj)
  have h0 : cnt l 0 = 0 := by
    have := hall 0 (by omega)
    unfold linkB at this
    rw [if_pos rfl] at this
    simp only [Bool.and_eq_true, decide_eq_true_eq] at this
    exact this.2
  refine ⟨hr, h0, fun i hd => ?_⟩
  by_cases hb : i < 0 ∨ (l.length : Int) ≤ i
  · rw [cnt_out hr hb]; omega
  · obtain ⟨m, rfl⟩ : ∃ m : Nat, i = (m : Int) := ⟨i.toNat, by omega⟩
    have hm := hall m (by omega)
    unfold linkB at hm
    by_cases hz : m = 0
    · subst hz
      have : cnt l ((0 : Nat) : Int) = 0 := h0
      omega
    · rw [if_neg hz] at hm
      have hk : (ndAt l (m : Int)).kind = 2 := by unfold isDir at hd; simpa using hd
      simp only [Bool.and_eq_true, decide_eq_true_eq, Bool.not_eq_true', Bool.and_eq_false_iff, Bool.or_eq_false_iff, decide_eq_false_iff_not] at hm
      obtain ⟨h1, h2⟩ := hm
      rcases h2 with h2 | h2
      · exact absurd hk h2
      · have := h2.1
        omega
end Go.Proofs.YtlcoapignfmgcaaGreatDoor
