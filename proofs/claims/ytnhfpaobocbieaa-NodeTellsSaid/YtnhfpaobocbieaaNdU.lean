/- How long the paths of the walk are. -/
import Derived.Test.YtnhfpaobocbieaaNdLi
namespace Go.Proofs.Ytnhfpaobocbieaa
set_option linter.unusedVariables false
theorem up_of {l : List ND} (hn : ∀ d ∈ l, ∀ y ∈ d.names, y.name.length ≤ 300) : ∀ (k : Nat) (us : List (List UInt8)) (d : Int), (∀ z ∈ us, z.length ≤ 300) → ∀ x ∈ wk l k us d, x.up.length + 1 ≤ us.length + k ∧ ∀ z ∈ x.up ++ [x.name], z.length ≤ 300
  | 0, us, d, hu, x, hx => by cases hx
  | k + 1, us, d, hu, x, hx => by
    rw [wk_succ] at hx
    obtain ⟨y, hy, hxy⟩ := List.mem_flatMap.1 hx
    have hyn : y.name.length ≤ 300 := hn _ (ndAt_mem hy).2 y hy
    unfold wkN at hxy
    rcases List.mem_cons.1 hxy with rfl | hxy
    · refine ⟨by show us.length + 1 ≤ _; omega, fun z hz => ?_⟩
      rcases List.mem_append.1 hz with hz | hz
      · exact hu z hz
      · rw [List.mem_singleton.1 hz]; exact hyn
    · split at hxy
      · have := up_of hn k (us ++ [y.name]) y.node (fun z hz => by
          rcases List.mem_append.1 hz with hz | hz
          · exact hu z hz
          · rw [List.mem_singleton.1 hz]; exact hyn) x hxy
        rw [List.length_append, List.length_singleton] at this
        exact ⟨by omega, this.2⟩
      · cases hxy
theorem join_small : ∀ (ks : List (List UInt8)), (∀ z ∈ ks, z.length ≤ 300) → (Lib.join ks [47]).length ≤ ks.length * 301
  | [], _ => by simp [Lib.join]
  | x :: t, h => by
    have hx := h x (List.mem_cons_self ..)
    rw [Lib.join_cons, List.length_append, List.length_cons]
    have ht : ∀ (t : List (List UInt8)), (∀ z ∈ t, z.length ≤ 300) → (Lib.joinTail [47] t).length ≤ t.length * 301 := by
      intro t
      induction t with
      | nil => intro _; exact Nat.le_refl _
      | cons y r ih =>
        intro hr
        have h1 := hr y (List.mem_cons_self ..)
        have h2 := ih (fun z hz => hr z (List.mem_cons_of_mem _ hz))
        have e : Lib.joinTail [47] (y :: r) = ([47] ++ y) ++ Lib.joinTail [47] r := by simp [Lib.joinTail]
        have e2 : (y :: r).length = r.length + 1 := rfl
        have e3 : ([47] ++ y : List UInt8).length = y.length + 1 := rfl
        rw [e, List.length_append, e2, e3]
        omega
    have := ht t (fun z hz => h z (List.mem_cons_of_mem _ hz))
    omega
theorem small_wk {l : List DV} (hB : FewB l) {n : Nat} (hn : n ≤ 60) : ∀ x ∈ wk (nds l) n [] 0, SmallS x := fun x hx => by
  have h := up_of (l := nds l) (fun d hd y hy => by
    unfold nds at hd
    obtain ⟨z, hz, rfl⟩ := List.mem_map.1 hd
    exact (hB.each z hz).nm y hy) n [] 0 (fun z hz => by cases hz) x hx
  have h2 := join_small _ h.2
  have h1 := h.1
  simp only [List.length_nil] at h1
  unfold SmallS
  rw [List.length_append, List.length_singleton] at h2 ⊢
  omega
end Go.Proofs.Ytnhfpaobocbieaa
