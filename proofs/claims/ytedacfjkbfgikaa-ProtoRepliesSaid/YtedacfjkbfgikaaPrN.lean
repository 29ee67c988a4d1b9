/- The fields of an operation's request and reply, as plain functions; present. -/
import Derived.Test.YtedacfjkbfgikaaPrM
import Derived.BigQuiet
namespace Go.Proofs.Ytedacfjkbfgikaa
open Go.RowKit Go.Maps
set_option linter.unusedVariables false
def useD (op : Int) : List (Int × Int) → Int × Bool → Int × Bool
  | [], a => a
  | (k, v) :: l, a => useD op l (if op = k then (v, true) else a)
theorem keyI (n : Int) : WideAt.IsKeyLit (.int .i64 n) := by first | exact .inl ⟨_, _, rfl⟩ | simp [WideAt.IsKeyLit] | (constructor) | (intro; simp)
theorem mapD_get (op : Int) : ∀ (L : List (Int × Int)) (D : DataW Unit) (a : Int × Bool), IsMap D → D.atKey (.int .i64 op) (.lit (.int .i64 0)) = .lit (.int .i64 a.1) → Maps.has D (.int .i64 op) = a.2 →
    (mapD L D).atKey (.int .i64 op) (.lit (.int .i64 0)) = .lit (.int .i64 (useD op L a).1) ∧ Maps.has (mapD L D) (.int .i64 op) = (useD op L a).2
  | [], D, a, _, h1, h2 => ⟨h1, h2⟩
  | (k, v) :: l, D, a, hD, h1, h2 => by
    rw [mapD, useD]
    by_cases h : op = k
    · subst h
      rw [if_pos rfl]
      exact mapD_get op l _ _ (hD.put _ _) (atKey_put_same hD (keyI _) _ _) (has_put_same hD (keyI _) _)
    · rw [if_neg h]
      have hne : (Lit.int .i64 op) ≠ .int .i64 k := by
        intro e
        injection e with _ e
        exact h e
      exact mapD_get op l _ _ (hD.put _ _) ((atKey_put_other hne _ _).trans h1) ((has_put_other hne _).trans h2)
def reqU (op : Int) : Int × Bool := useD op reqL (0, false)
def repU (op : Int) : Int × Bool := useD op repL (0, false)
theorem req_get (op : Int) : (mapD reqL (.map [])).atKey (.int .i64 op) (.lit (.int .i64 0)) = .lit (.int .i64 (reqU op).1) ∧ Maps.has (mapD reqL (.map [])) (.int .i64 op) = (reqU op).2 :=
  mapD_get op reqL (.map []) (0, false) isMap_empty rfl rfl
theorem rep_get (op : Int) : (mapD repL (.map [])).atKey (.int .i64 op) (.lit (.int .i64 0)) = .lit (.int .i64 (repU op).1) ∧ Maps.has (mapD repL (.map [])) (.int .i64 op) = (repU op).2 :=
  mapD_get op repL (.map []) (0, false) isMap_empty rfl rfl
set_option maxHeartbeats 400000 in
theorem present_any (b : Bool) (f : Int) (w : World) :
    Calls Try.prog 98 #[.bool b, .int .i64 f] w fun e w' => e = .returned (.int .i64 (if b then f else 0)) ∧ w = w' := by
  cases b
  · go_enter Try.func98, Try.ntmps98
    go_wp2_with fail
    go_ret
    exact ⟨rfl, rfl⟩
  · go_enter Try.func98, Try.ntmps98
    go_wp2_with fail
    go_ret
    exact ⟨rfl, rfl⟩
set_option maxHeartbeats 400000 in
theorem range_any (n : Int) (w : World) :
    Calls Try.prog 66 #[.int .i64 n] w fun e w' => e = .returned (.bool (wideP n)) ∧ w = w' := by
  unfold wideP
  by_cases h1 : -2147483648 ≤ n
  · by_cases h2 : n ≤ 2147483647
    · go_enter Try.func66, Try.ntmps66
      go_wp2_with fail
      go_ret
      exact ⟨by first | (congr 2; simp; omega) | (simp; omega), rfl⟩
    · go_enter Try.func66, Try.ntmps66
      go_wp2_with fail
      go_ret
      exact ⟨by first | (congr 2; simp; omega) | (simp; omega), rfl⟩
  · go_enter Try.func66, Try.ntmps66
    go_wp2_with fail
    go_ret
    exact ⟨by first | (congr 2; simp; omega) | (simp; omega), rfl⟩
end Go.Proofs.Ytedacfjkbfgikaa
