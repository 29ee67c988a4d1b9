/- Up by parents is within by paths. -/
import Derived.Test.YtlcoapignfmgcaaGreatDoorGr
import Derived.Test.YtlcoapignfmgcaaGreatDoorGs
namespace Go.Proofs.YtlcoapignfmgcaaGreatDoor
set_option linter.unusedVariables false
def pDir (o : Option ST) : Int := match o with | some x => x.dir | none => 0
def pName (o : Option ST) : List UInt8 := match o with | some x => x.name | none => []
def parentP (l : List ND) (m : Int) : Int × List UInt8 × Bool :=
  if checkB l = false then (0, [], false) else (pDir (fndN m (wk l l.length [] 0)), pName (fndN m (wk l l.length [] 0)), (fndN m (wk l l.length [] 0)).isSome)
theorem wk_bound {l : List DV} (hB : FewB l) (h : checkB (nds l) = true) : (wk (nds l) (nds l).length [] 0).length ≤ 100000 := by
  obtain ⟨h1, h2, h3, hl, h5, hr, h7⟩ := checkB_facts h
  exact Nat.le_trans (wk_few (one_of h) (namesOk_of h3) (by omega) h7) (names_few hB)
/-- Is a node a directory, or within it, as parents tell (so many steps at most)? -/
def upP (l : List ND) : Nat → Int → Int → Bool
  | 0, _, _ => false
  | f + 1, b, k => if b = k then true else if (parentP l b).2.2 = true then upP l f (parentP l b).1 k else false
theorem parent_step {l : List ND} (h : checkB l = true) {z : ST} (hz : z ∈ WK l) (hd : isDir l z.node = true) : parentP l z.node = (z.dir, z.name, true) := by
  have h1 := one_of h
  unfold parentP
  rw [if_neg (by rw [h]; simp)]
  have hf : fndN z.node (wk l l.length [] 0) = some z := by
    cases hf : fndN z.node (wk l l.length [] 0) with
    | none =>
      unfold fndN at hf
      have := List.find?_eq_none.1 hf z hz
      simp at this
    | some z' =>
      obtain ⟨hm, he⟩ := fnd_mem hf
      rw [step_uniq h1 _ z' z (Nat.le_refl _) hm hz he (by rw [he]; exact hd)]
  rw [hf]
  rfl
theorem parent_root {l : List ND} (h : checkB l = true) : parentP l 0 = (0, [], false) := by
  unfold parentP
  rw [if_neg (by rw [h]; simp)]
  have hf : fndN 0 (wk l l.length [] 0) = none := by
    cases hf : fndN 0 (wk l l.length [] 0) with
    | none => rfl
    | some z =>
      obtain ⟨hm, he⟩ := fnd_mem hf
      exact absurd he ((one_of h).no_root hm)
  rw [hf]
  rfl
theorem up_root {l : List ND} (h : checkB l = true) {k : Int} (hk : k ≠ 0) : ∀ f, upP l f 0 k = false
  | 0 => rfl
  | f + 1 => by
    rw [upP, if_neg (fun e => hk e.symm), parent_root h]
    rfl
theorem path_one {l : List ND} (h : checkB l = true) {x z : ST} (hx : x ∈ WK l) (hz : z ∈ WK l) (e : pth x = pth z) : x = z := by
  have hp := paths_apart (namesOk_of (checkB_facts h).2.2.1) l.length [] 0
  obtain ⟨i, hi, ei⟩ := List.getElem_of_mem (show x ∈ wk l l.length [] 0 from hx)
  obtain ⟨j, hj, ej⟩ := List.getElem_of_mem (show z ∈ wk l l.length [] 0 from hz)
  rw [List.pairwise_iff_getElem] at hp
  rcases Nat.lt_trichotomy i j with q | q | q
  · exact absurd (by rw [ei, ej]; exact e) (hp i j hi hj q)
  · subst q
    exact ei.symm.trans ej
  · exact absurd (by rw [ei, ej]; exact e.symm) (hp j i hj hi q)
theorem wk_deeper {l : List ND} : ∀ (k : Nat) (us : List (List UInt8)) (d : Int), ∀ x ∈ wk l k us d, x.up.length < us.length + k
  | 0, us, d, x, hx => by cases hx
  | k + 1, us, d, x, hx => by
    rw [wk_succ] at hx
    obtain ⟨y, hy, hx⟩ := List.mem_flatMap.1 hx
    unfold wkN at hx
    rcases List.mem_cons.1 hx with rfl | hx
    · show us.length < us.length + (k + 1); omega
    · by_cases hd : isDir l y.node = true
      · rw [if_pos hd] at hx
        have := wk_deeper k _ _ x hx
        rw [List.length_append, List.length_singleton] at this
        omega
      · rw [if_neg hd] at hx; cases hx
theorem up_step {l : List ND} (h : checkB l = true) {x : ST} (hx : x ∈ WK l) (hxd : isDir l x.node = true) : ∀ (f : Nat) (z : ST), z ∈ WK l → isDir l z.node = true → (pth z).length < f → upP l f z.node x.node = (pth x).isPrefixOf (pth z)
  | 0, z, _, _, hf => by omega
  | f + 1, z, hz, hzd, hf => by
    rw [upP]
    by_cases e : z.node = x.node
    · have hxz : z = x := step_uniq (one_of h) _ z x (Nat.le_refl _) hz hx e hzd
      rw [if_pos e, hxz]
      exact (List.isPrefixOf_iff_prefix.2 (List.prefix_refl _)).symm
    · rw [if_neg e, parent_step h hz hzd]
      show upP l f z.dir x.node = _
      have hne : pth x ≠ pth z := fun e2 => e (by rw [path_one h hx hz e2])
      rcases wk_up _ _ _ z hz with ⟨h1, h2, _⟩ | ⟨y, hy, hyd, h1, h2, _⟩
      · rw [h1, up_root h ((one_of h).no_root hx)]
        cases hb : (pth x).isPrefixOf (pth z) with
        | false => rfl
        | true =>
          have hp := List.isPrefixOf_iff_prefix.1 hb
          have ez : pth z = [] ++ [z.name] := by unfold pth; rw [h2]
          rw [ez, List.prefix_concat_iff] at hp
          rcases hp with hp | hp
          · exact absurd (hp.trans ez.symm) hne
          · have := List.prefix_nil.1 hp
            unfold pth at this
            simp at this
      · have ez : pth z = pth y ++ [z.name] := by conv => lhs; unfold pth; rw [h2]
        rw [h1, up_step h hx hxd f y hy hyd (by rw [ez, List.length_append, List.length_singleton] at hf; omega)]
        rw [Bool.eq_iff_iff, List.isPrefixOf_iff_prefix, List.isPrefixOf_iff_prefix, ez, List.prefix_concat_iff]
        exact ⟨.inr, fun hp => hp.elim (fun hp => absurd (hp.trans ez.symm) hne) id⟩
theorem up_within {l : List ND} (h : checkB l = true) {k b : Nat} (hk : k < l.length) (hk2 : (ndAt l (k : Int)).kind = 2) (hkc : (ndAt l (k : Int)).links ≠ 0) (h0 : k ≠ 0) (hb : b < l.length) (hb2 : (ndAt l (b : Int)).kind = 2) (hbc : (ndAt l (b : Int)).links ≠ 0) :
    upP l (l.length + 1) (b : Int) (k : Int) = withinP l (b : Int) (k : Int) := by
  obtain ⟨x, hx, ex, hxd⟩ := step_of_dd (dd_of_named h hk hk2 hkc) (by omega)
  have w1 := where_step h hx hxd
  obtain ⟨r1, c1⟩ := path_rooted h hx
  by_cases hb0 : b = 0
  · subst hb0
    have hw : whereP l ((0 : Nat) : Int) = ([47], true) := by
      unfold whereP
      rw [if_neg (by rw [h]; simp), if_pos (show ((0 : Nat) : Int) = 0 from rfl)]
    unfold withinP
    rw [← ex, w1, hw, inside_plain _ _ (by rfl) r1, c1]
    have hcl : cleaned [47] true = [] := by rfl
    rw [hcl]
    have hu : upP l (l.length + 1) ((0 : Nat) : Int) x.node = false := up_root h ((one_of h).no_root hx) _
    rw [hu]
    cases hp : pth x with
    | nil => unfold pth at hp; simp at hp
    | cons a t => rfl
  · obtain ⟨z, hz, ez, hzd⟩ := step_of_dd (dd_of_named h hb hb2 hbc) (by omega)
    have w2 := where_step h hz hzd
    obtain ⟨r2, c2⟩ := path_rooted h hz
    have hd := wk_deeper _ _ _ z hz
    rw [List.length_nil, Nat.zero_add] at hd
    rw [← ex, ← ez, up_step h hx hxd _ z hz hzd (by unfold pth; rw [List.length_append, List.length_singleton]; omega)]
    unfold withinP
    rw [w1, w2, inside_plain _ _ r2 r1, c1, c2]
    rfl
end Go.Proofs.YtlcoapignfmgcaaGreatDoor
