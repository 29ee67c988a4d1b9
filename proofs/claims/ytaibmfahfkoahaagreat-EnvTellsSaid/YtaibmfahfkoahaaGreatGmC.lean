/- The contract of glob.compile. -/
import Derived.Test.YtaibmfahfkoahaaGreatGmB
namespace Go.Proofs.YtaibmfahfkoahaaGreat
open Go.RowKit
set_option linter.unusedVariables false
theorem nextP_cons (c : UInt8) (r : Bs) : nextP (c :: r) = if c = 42 then (.star, 1) else if c = 63 then (.any, 1) else if c = 91 then (match classP (c :: r) with
      | some (s, n, k) => (.cls s n, k)
      | none => (.one c, 1)) else if c = 92 then (match r with
      | [] => (.one c, 1)
      | d :: _ => (.one d, 2)) else (.one c, 1) := rfl
theorem next_size : ∀ p : Bs, p ≠ [] → 1 ≤ (nextP p).2 ∧ (nextP p).2 ≤ p.length
  | [], h => absurd rfl h
  | c :: r, _ => by
    by_cases h1 : c = 42
    · rw [nextP_cons, if_pos h1]; simp
    by_cases h2 : c = 63
    · rw [nextP_cons, if_neg h1, if_pos h2]; simp
    by_cases h3 : c = 91
    · rw [nextP_cons, if_neg h1, if_neg h2, if_pos h3]
      cases hc : classP (c :: r) with
      | none => simp
      | some q =>
        obtain ⟨s, n, k⟩ := q
        unfold classP at hc
        split at hc
        · cases hc
        · split at hc
          · cases hc
          · rename_i h1 h2
            have := index_lt ((c :: r).drop (classB (c :: r) + 1)) 93
            rw [List.length_drop] at this
            injection hc with hc
            injection hc with _ hc
            injection hc with _ hc
            show 1 ≤ k ∧ k ≤ _
            omega
    by_cases h4 : c = 92
    · rw [nextP_cons, if_neg h1, if_neg h2, if_neg h3, if_pos h4]
      cases r <;> simp
    · rw [nextP_cons, if_neg h1, if_neg h2, if_neg h3, if_neg h4]; simp
def compF : Nat → Bs → List El
  | 0, _ => []
  | _ + 1, [] => []
  | n + 1, c :: r => (nextP (c :: r)).1 :: compF n ((c :: r).drop (nextP (c :: r)).2)
def compileP (p : Bs) : List El := compF p.length p
theorem compF_more : ∀ (n m : Nat) (p : Bs), p.length ≤ n → p.length ≤ m → compF n p = compF m p
  | 0, m, p, h, _ => by
    obtain rfl := List.eq_nil_of_length_eq_zero (Nat.le_zero.1 h)
    cases m <;> rfl
  | n + 1, m, [], _, _ => by cases m <;> rfl
  | n + 1, 0, c :: r, _, h => by simp at h
  | n + 1, m + 1, c :: r, h1, h2 => by
    have hs := next_size (c :: r) (by simp)
    unfold compF
    rw [compF_more n m _ (by rw [List.length_drop]; omega) (by rw [List.length_drop]; omega)]
theorem compile_cons (c : UInt8) (r : Bs) : compileP (c :: r) = (nextP (c :: r)).1 :: compileP ((c :: r).drop (nextP (c :: r)).2) := by
  have hs := next_size (c :: r) (by simp)
  show compF (r.length + 1) (c :: r) = _
  unfold compF
  unfold compileP
  rw [compF_more r.length _ _ (by rw [List.length_drop]; simp at *; omega) (Nat.le_refl _)]
theorem compile_nil : compileP [] = [] := rfl
theorem compile_len : ∀ (n : Nat) (p : Bs), p.length ≤ n → (compileP p).length ≤ p.length
  | 0, p, h => by
    obtain rfl := List.eq_nil_of_length_eq_zero (Nat.le_zero.1 h)
    exact Nat.le_refl _
  | n + 1, [], _ => Nat.le_refl _
  | n + 1, c :: r, h => by
    have hs := next_size (c :: r) (by simp)
    rw [compile_cons, List.length_cons]
    have := compile_len n ((c :: r).drop (nextP (c :: r)).2) (by rw [List.length_drop]; omega)
    rw [List.length_drop] at this
    omega
/-- A row of elements. -/
def EvL (w : World) (es : List El) (cells : List Value) : Prop := cells.length = es.length * 2 ∧ ∀ k (h : k < es.length), ∃ a b, cells[k * 2]? = some a ∧ cells[k * 2 + 1]? = some b ∧ EV w es[k] a b
theorem EvL.nil (w : World) : EvL w [] [] := ⟨rfl, fun k h => by simp at h⟩
theorem EvL.below {w w' : World} {es : List El} {cells : List Value} (h : EvL w es cells) (hb : Below w.heap.size w w') : EvL w' es cells :=
  ⟨h.1, fun k hk => by
    obtain ⟨a, b, h1, h2, h3⟩ := h.2 k hk
    exact ⟨a, b, h1, h2, h3.below hb⟩⟩
theorem EvL.snoc {w : World} {es : List El} {cells : List Value} {e : El} {a b : Value} (h : EvL w es cells) (he : EV w e a b) : EvL w (es ++ [e]) (cells ++ [a, b]) := by
  refine ⟨by simp [h.1]; omega, fun k hk => ?_⟩
  rcases Nat.lt_or_ge k es.length with hl | hl
  · obtain ⟨x, y, h1, h2, h3⟩ := h.2 k hl
    refine ⟨x, y, ?_, ?_, ?_⟩
    · rw [List.getElem?_append_left (by rw [h.1]; omega)]; exact h1
    · rw [List.getElem?_append_left (by rw [h.1]; omega)]; exact h2
    · rw [List.getElem_append_left hl]; exact h3
  · obtain rfl : k = es.length := by simp at hk; omega
    refine ⟨a, b, ?_, ?_, ?_⟩
    · rw [← h.1, List.getElem?_append_right (Nat.le_refl _), Nat.sub_self]; rfl
    · rw [← h.1, List.getElem?_append_right (by omega)]; simp
    · rw [List.getElem_append_right (Nat.le_refl _)]; simpa using he
theorem Blk.keepRow {w w' : World} {g : Nat} {t : TypeId} {cs : Array Value} {B n size : Nat} {v : Value} {xs : List Value} (h : Blk w g t cs) (ho : w.ownsRow B 106 size v n xs) (hg : w.grownBy w' v.ownBlock) (ht : t ≠ 106) : Blk w' g t cs :=
  h.grown hg (Ne.symm (own_blk_ne ho h (Ne.symm ht)))
theorem EV.keepRow {w w' : World} {e : El} {a b : Value} {B n size : Nat} {v : Value} {xs : List Value} (h : EV w e a b) (ho : w.ownsRow B 106 size v n xs) (hg : w.grownBy w' v.ownBlock) : EV w' e a b := by
  cases e with
  | star => exact h
  | any => exact h
  | one c =>
    obtain ⟨h1, g, h2, h3⟩ := h
    exact ⟨h1, g, h2, h3.keepRow ho hg (by decide)⟩
  | cls s n =>
    obtain ⟨h1, g, q, h2, h3, h4⟩ := h
    exact ⟨h1, g, q, h2, h3.keepRow ho hg (by decide), h4.keepRow ho hg (by decide)⟩
theorem EvL.keepRow {w w' : World} {es : List El} {cells : List Value} {B n size : Nat} {v : Value} {xs : List Value} (h : EvL w es cells) (ho : w.ownsRow B 106 size v n xs) (hg : w.grownBy w' v.ownBlock) : EvL w' es cells :=
  ⟨h.1, fun k hk => by
    obtain ⟨a, b, h1, h2, h3⟩ := h.2 k hk
    exact ⟨a, b, h1, h2, h3.keepRow ho hg⟩⟩
theorem info57 : (Tryz.prog.info? 106).map (fun i => (i.zero, i.size, i.bytes)) = some (some (.agg #[.bool false, .nilFunc]), 2, 16) := by kernel_rfl
theorem EV.one_ {w : World} {e : El} {a b : Value} (h : EV w e a b) : a.oneCell' = true ∧ b.oneCell' = true := by
  cases e with
  | star => obtain ⟨rfl, rfl⟩ := h; exact ⟨rfl, rfl⟩
  | any => obtain ⟨rfl, rfl⟩ := h; exact ⟨rfl, rfl⟩
  | one c => obtain ⟨rfl, g, rfl, _⟩ := h; exact ⟨rfl, rfl⟩
  | cls s n => obtain ⟨rfl, g, q, rfl, _⟩ := h; exact ⟨rfl, rfl⟩
theorem EV.store {w : World} {e : El} {a b : Value} (h : EV w e a b) : (∀ (W : World) (p : Addr) (m : Mode), (store p a m).run Tryz.prog W = stored Tryz.prog W p a m) ∧ (∀ (W : World) (p : Addr) (m : Mode), (store p b m).run Tryz.prog W = stored Tryz.prog W p b m) :=
  ⟨fun W p m => run_store _ W p a m h.one_.1, fun W p m => run_store _ W p b m h.one_.2⟩
set_option maxRecDepth 100000 in
set_option maxHeartbeats 4000000 in
theorem compile_any (p : Bs) (hp : p.length ≤ 100000) (w : World) : Calls Tryz.prog 73 #[.string ⟨p.toArray⟩] w fun e w' => ∃ A n c cells, e = .returned (.slice A n c) ∧ w'.ownsRow w.heap.size 106 2 (.slice A n c) n cells ∧ n = (compileP p).length ∧ EvL w' (compileP p) cells ∧ Below w.heap.size w w' := by
  obtain ⟨i0, hi, hz0, hz1, hz2⟩ := info_parts info57
  go_enter Tryz.func73, Tryz.ntmps73
  go_wp2_with fail
  go_loopw [0, 3] (fun u0 u3 wx => ∃ (rest : Bs) (done : List El) (A : Option Addr) (n c : Nat) (cells : List Value), u0 = .string ⟨rest.toArray⟩ ∧ u3 = .slice A n c ∧ Hid (wx.ownsRow w.heap.size 106 2 (.slice A n c) n cells) ∧ Hid (EvL wx done cells) ∧ Hid (compileP p = done ++ compileP rest) ∧ Hid (Below w.heap.size w wx) ∧ Hid (n = done.length) ∧ rest.length ≤ 100000 ∧ n + rest.length ≤ 100000) (fun u0 _ _ => match u0 with | .string s => s.size | _ => 0)
  case atStart => exact ⟨p, [], none, 0, 0, [], rfl, rfl, hide (World.ownsRow_nil _ _ _ _), hide (EvL.nil _), hide rfl, hide (Below.refl _ _), hide rfl, hp, by omega⟩
  case round =>
    obtain ⟨rest, done, A, n, c, cells, rfl, rfl, HO, HE, HC, HB, HN, hr1, hr2⟩ := hrel
    cases rest with
    | nil =>
      go_wp2_with fail
      go_ret
      have h1 := HC.out
      rw [compile_nil, List.append_nil] at h1
      exact ⟨A, n, c, cells, rfl, HO.out, by rw [h1]; exact HN.out, by rw [h1]; exact HE.out, HB.out⟩
    | cons x t =>
      have HX := hide (next_any x t (by omega))
      have hsz := next_size (x :: t) (by simp)
      have HC2 := hide (compile_cons x t)
      obtain ⟨l, hl⟩ : ∃ l, x :: t = l := ⟨_, rfl⟩
      rw [hl] at HX hsz HC2 HC hr1 hr2 ⊢
      have hpos : (0 : Int) < (l.length : Int) := by rw [← hl]; simp
      clear hl
      obtain ⟨el, k, hnx⟩ : ∃ el k, nextP l = (el, k) := ⟨_, _, rfl⟩
      rw [hnx] at HX hsz HC2
      clear hnx
      obtain ⟨hk1, hk2⟩ := hsz
      simp only at hk1 hk2
      have HX2 : Hid (∀ W, Calls Tryz.prog 90 #[.string ⟨l.toArray⟩] W fun e w' => ∃ a b, e = .returned (.tuple #[.agg #[a, b], .int .i64 (k : Int)]) ∧ EV w' el a b ∧ Below W.heap.size W w') := hide HX.out
      clear HX
      go_wp2_with fail
      refine (HX2.out _).mono ?_
      rintro e w1 ⟨a, b, rfl, hev, hb1⟩
      have HEV := hide hev
      have HB1 := hide hb1
      obtain ⟨hsa, hsb⟩ := hev.store
      have hone := hev.one_
      clear hev hb1
      have hO1 := hide (own_below HO.out HB1.out)
      have hO2 := hide ((hO1.out.alloc (.cells #[a, b] 106)).alloc (.cells #[a, b] 106))
      have hr1' : Hid (Reads ((w1.alloc (.cells #[a, b] 106)).alloc (.cells #[a, b] 106)) (w1.heap.size + 2) 2 (some ⟨w1.heap.size + 1, 0, none⟩) 1 [a, b]) := hide ⟨rfl, fun _ => ⟨_, rfl, by simp, fun j u hu => by
        have hb := Blk.new (w1.alloc (.cells #[a, b] 106)) 106 #[a, b]
        rw [at_add, Nat.zero_add]
        have e : (w1.alloc (.cells #[a, b] 106)).heap.size = w1.heap.size + 1 := by simp
        rw [e] at hb
        rw [hb.cell j]
        simpa using hu⟩⟩
      have hon : ∀ u ∈ [a, b], u.oneCell' = true := fun u hu => by
        simp only [List.mem_cons, List.mem_nil_iff, or_false] at hu
        rcases hu with rfl | rfl
        · exact hone.1
        · exact hone.2
      have HON := hide hon
      clear hon hone
      go_wp2_with (at_builtin; (refine wpList_append_any _ rfl (.tmp 14) (.tmp 16) 91 rfl w.heap.size 106 i0 _ 2 16 Tryz.underlying91 hi hz0 hz1 hz2 rfl (by omega) (.slice A n c) n cells rfl hO2.out (w1.heap.size + 2) (some ⟨w1.heap.size + 1, 0, none⟩) 1 1 [a, b] rfl hr1'.out HON.out ?c1 ?c2 ?c3 ?_))
      case c1 => unfold maxLen; omega
      case c2 => omega
      case c3 => have := HB.out.size; have := HB1.out.size; simp; omega
      intro v1 w2 hown1 hg1 hat1
      obtain ⟨A', c', rfl⟩ := own_slice hown1
      have HO3 := hide hown1
      have hE1 := HE.out.below HB1.out
      have HE3 : Hid (EvL w2 (done ++ [el]) (cells ++ [a, b])) := hide (by
        have h2 := (hE1.below ((Below.refl _ _).alloc (Nat.le_refl _) (.cells #[a, b] 106)))
        have h3 := (h2.below ((Below.refl _ _).alloc (Nat.le_refl _) (.cells #[a, b] 106)))
        have e2 := HEV.out.below ((Below.refl _ _).alloc (Nat.le_refl _) (.cells #[a, b] 106))
        have e3 := e2.below ((Below.refl _ _).alloc (Nat.le_refl _) (.cells #[a, b] 106))
        exact (h3.snoc e3).keepRow hO2.out hg1)
      have HB3 : Hid (Below w.heap.size w w2) := hide (by
        have h0 := below_more HB.out (Nat.le_refl _) HB1.out
        have h1 := (h0.alloc h0.size (.cells #[a, b] 106))
        have h2 := h1.alloc h1.size (.cells #[a, b] 106)
        exact h2.grown hg1 h2.size (fun g hg => (World.ownsRow.lt hO2.out g hg).1))
      have HC3 : Hid (compileP p = (done ++ [el]) ++ compileP (l.drop k)) := hide (by rw [HC.out, HC2.out]; simp)
      have HN3 : Hid (n + 1 = (done ++ [el]).length) := hide (by rw [HN.out]; simp)
      clear hown1 hg1 hat1 hE1 hsa hsb
      go_wp2_with fail
      first | rw [ext_from] | skip
      go_roundw
      case rel => exact ⟨l.drop k, done ++ [el], A', n + 1, c', cells ++ [a, b], rfl, rfl, HO3, HE3, HC3, HB3, HN3, by simp; omega, by simp; omega⟩
      case measure =>
        show (l.drop k).length < l.length
        rw [List.length_drop]; omega
end Go.Proofs.YtaibmfahfkoahaaGreat
