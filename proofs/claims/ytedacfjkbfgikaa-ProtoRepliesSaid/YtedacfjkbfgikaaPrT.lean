/- The bytes of a request, reading one back, as plain functions. No program. -/
import Derived.Test.YtedacfjkbfgikaaPrC
namespace Go.Proofs.Ytedacfjkbfgikaa
set_option linter.unusedVariables false
def on {α : Type} (u k : Int) (a b : α) : α := if bits .and .i64 u k = 0 then b else a
theorem on_yes {α : Type} {u k : Int} (h : ¬ bits .and .i64 u k = 0) (a b : α) : on u k a b = a := if_neg h
theorem on_no {α : Type} {u k : Int} (h : bits .and .i64 u k = 0) (a b : α) : on u k a b = b := if_pos h
def encS (u : Int) (r : RQ) : List LB := [on u 2 (intP r.h) [], on u 8 (txtP r.p) [], on u 16 (txtP r.p2) [], on u 32 (lstP r.args) [], on u 64 (lstP r.env) [], on u 128 (numsP r.fds) [], on u 256 (intP r.fl) [], on u 512 (intP r.n) [], on u 1024 (txtP r.d) []]
def opB (op : Int) : UInt8 := UInt8.ofNat op.toNat
def encQ (r : RQ) : LB := opB r.op :: catP (encS (reqU r.op).1 r)
def zQ (op : Int) : RQ := ⟨op, [], [], 0, 0, 0, [], [], [], []⟩
def rdH (p : RQ × St) : RQ × St := ({ p.1 with h := (intS p.2).1 }, (intS p.2).2)
def rdP (p : RQ × St) : RQ × St := ({ p.1 with p := (txtS p.2).1 }, (txtS p.2).2)
def rdP2 (p : RQ × St) : RQ × St := ({ p.1 with p2 := (txtS p.2).1 }, (txtS p.2).2)
def rdA (p : RQ × St) : RQ × St := ({ p.1 with args := (listS txtS p.2).1 }, (listS txtS p.2).2)
def rdE (p : RQ × St) : RQ × St := ({ p.1 with env := (listS txtS p.2).1 }, (listS txtS p.2).2)
def rdF (p : RQ × St) : RQ × St := ({ p.1 with fds := (listS intS p.2).1 }, (listS intS p.2).2)
def rdFl (p : RQ × St) : RQ × St := ({ p.1 with fl := (intS p.2).1 }, (intS p.2).2)
def rdN (p : RQ × St) : RQ × St := ({ p.1 with n := (intS p.2).1 }, (intS p.2).2)
def rdD (p : RQ × St) : RQ × St := ({ p.1 with d := (txtS p.2).1 }, (txtS p.2).2)
def fldQ : List (Int × (RQ × St → RQ × St)) := [(2, rdH), (8, rdP), (16, rdP2), (32, rdA), (64, rdE), (128, rdF), (256, rdFl), (512, rdN), (1024, rdD)]
/-- What has been read after so many of the nine fields. -/
def dcQ (u : Int) (p : RQ × St) : Nat → RQ × St
  | 0 => p
  | k + 1 => on u (fldQ.getD k (0, id)).1 ((fldQ.getD k (0, id)).2 (dcQ u p k)) (dcQ u p k)
def a1 (u : Int) (st : St) : Int × St := on u 2 (intS st) (0, st)
def a2 (u : Int) (st : St) : LB × St := on u 8 (txtS st) ([], st)
def a3 (u : Int) (st : St) : LB × St := on u 16 (txtS st) ([], st)
def a4 (u : Int) (st : St) : List LB × St := on u 32 (listS txtS st) ([], st)
def a5 (u : Int) (st : St) : List LB × St := on u 64 (listS txtS st) ([], st)
def a6 (u : Int) (st : St) : List Int × St := on u 128 (listS intS st) ([], st)
def a7 (u : Int) (st : St) : Int × St := on u 256 (intS st) (0, st)
def a8 (u : Int) (st : St) : Int × St := on u 512 (intS st) (0, st)
def a9 (u : Int) (st : St) : LB × St := on u 1024 (txtS st) ([], st)
def decX (u op : Int) (st : St) : RQ × St :=
  (⟨op, (a2 u (a1 u st).2).1, (a3 u (a2 u (a1 u st).2).2).1, (a1 u st).1,
    (a8 u (a7 u (a6 u (a5 u (a4 u (a3 u (a2 u (a1 u st).2).2).2).2).2).2).2).1,
    (a7 u (a6 u (a5 u (a4 u (a3 u (a2 u (a1 u st).2).2).2).2).2).2).1,
    (a9 u (a8 u (a7 u (a6 u (a5 u (a4 u (a3 u (a2 u (a1 u st).2).2).2).2).2).2).2).2).1,
    (a4 u (a3 u (a2 u (a1 u st).2).2).2).1, (a5 u (a4 u (a3 u (a2 u (a1 u st).2).2).2).2).1, (a6 u (a5 u (a4 u (a3 u (a2 u (a1 u st).2).2).2).2).2).1⟩,
   (a9 u (a8 u (a7 u (a6 u (a5 u (a4 u (a3 u (a2 u (a1 u st).2).2).2).2).2).2).2).2).2)
theorem dcQ_eq (u op : Int) (st : St) : dcQ u (zQ op, st) 9 = decX u op st := by
  have h1 : dcQ u (zQ op, st) 1 = ({ zQ op with h := (a1 u st).1 }, (a1 u st).2) := by
    show on u 2 (rdH (zQ op, st)) (zQ op, st) = _
    unfold a1 on; split <;> rfl
  generalize he1 : a1 u st = x1 at h1
  have h2 : dcQ u (zQ op, st) 2 = ({ zQ op with h := x1.1, p := (a2 u x1.2).1 }, (a2 u x1.2).2) := by
    show on u 8 (rdP (dcQ u (zQ op, st) 1)) (dcQ u (zQ op, st) 1) = _
    rw [h1]; unfold a2 on; split <;> rfl
  generalize he2 : a2 u x1.2 = x2 at h2
  have h3 : dcQ u (zQ op, st) 3 = ({ zQ op with h := x1.1, p := x2.1, p2 := (a3 u x2.2).1 }, (a3 u x2.2).2) := by
    show on u 16 (rdP2 (dcQ u (zQ op, st) 2)) (dcQ u (zQ op, st) 2) = _
    rw [h2]; unfold a3 on; split <;> rfl
  generalize he3 : a3 u x2.2 = x3 at h3
  have h4 : dcQ u (zQ op, st) 4 = ({ zQ op with h := x1.1, p := x2.1, p2 := x3.1, args := (a4 u x3.2).1 }, (a4 u x3.2).2) := by
    show on u 32 (rdA (dcQ u (zQ op, st) 3)) (dcQ u (zQ op, st) 3) = _
    rw [h3]; unfold a4 on; split <;> rfl
  generalize he4 : a4 u x3.2 = x4 at h4
  have h5 : dcQ u (zQ op, st) 5 = ({ zQ op with h := x1.1, p := x2.1, p2 := x3.1, args := x4.1, env := (a5 u x4.2).1 }, (a5 u x4.2).2) := by
    show on u 64 (rdE (dcQ u (zQ op, st) 4)) (dcQ u (zQ op, st) 4) = _
    rw [h4]; unfold a5 on; split <;> rfl
  generalize he5 : a5 u x4.2 = x5 at h5
  have h6 : dcQ u (zQ op, st) 6 = ({ zQ op with h := x1.1, p := x2.1, p2 := x3.1, args := x4.1, env := x5.1, fds := (a6 u x5.2).1 }, (a6 u x5.2).2) := by
    show on u 128 (rdF (dcQ u (zQ op, st) 5)) (dcQ u (zQ op, st) 5) = _
    rw [h5]; unfold a6 on; split <;> rfl
  generalize he6 : a6 u x5.2 = x6 at h6
  have h7 : dcQ u (zQ op, st) 7 = ({ zQ op with h := x1.1, p := x2.1, p2 := x3.1, args := x4.1, env := x5.1, fds := x6.1, fl := (a7 u x6.2).1 }, (a7 u x6.2).2) := by
    show on u 256 (rdFl (dcQ u (zQ op, st) 6)) (dcQ u (zQ op, st) 6) = _
    rw [h6]; unfold a7 on; split <;> rfl
  generalize he7 : a7 u x6.2 = x7 at h7
  have h8 : dcQ u (zQ op, st) 8 = ({ zQ op with h := x1.1, p := x2.1, p2 := x3.1, args := x4.1, env := x5.1, fds := x6.1, fl := x7.1, n := (a8 u x7.2).1 }, (a8 u x7.2).2) := by
    show on u 512 (rdN (dcQ u (zQ op, st) 7)) (dcQ u (zQ op, st) 7) = _
    rw [h7]; unfold a8 on; split <;> rfl
  generalize he8 : a8 u x7.2 = x8 at h8
  have h9 : dcQ u (zQ op, st) 9 = ({ zQ op with h := x1.1, p := x2.1, p2 := x3.1, args := x4.1, env := x5.1, fds := x6.1, fl := x7.1, n := x8.1, d := (a9 u x8.2).1 }, (a9 u x8.2).2) := by
    show on u 1024 (rdD (dcQ u (zQ op, st) 8)) (dcQ u (zQ op, st) 8) = _
    rw [h8]; unfold a9 on; split <;> rfl
  rw [h9]
  unfold decX
  simp only [he1, he2, he3, he4, he5, he6, he7, he8]
  rfl
theorem on_app {α : Type} (u k : Int) (f : St → α × St) (e : α → LB) (z v : α) (r : LB) (hf : ¬ bits .and .i64 u k = 0 → f (e v ++ r, false) = (v, (r, false))) (hz : bits .and .i64 u k = 0 → v = z) :
    on u k (f (on u k (e v) [] ++ r, false)) (z, (on u k (e v) [] ++ r, false)) = (v, (r, false)) := by
  by_cases h : bits .and .i64 u k = 0
  · rw [on_no h, on_no h, hz h]; rfl
  · rw [on_yes h, on_yes h]; exact hf h
theorem on_back {α : Type} (u k : Int) (f : St → α × St) (e : α → LB) (ok : α → Prop) (z : α) (st : St) (r : LB) (hf : ∀ v, f st = (v, (r, false)) → st = (e v ++ r, false) ∧ ok v) (h : (on u k (f st) (z, st)).2 = (r, false)) :
    st = (on u k (e (on u k (f st) (z, st)).1) [] ++ r, false) ∧ (on u k (ok (on u k (f st) (z, st)).1) ((on u k (f st) (z, st)).1 = z)) := by
  by_cases hb : bits .and .i64 u k = 0
  · simp only [on_no hb] at h ⊢
    exact ⟨h, trivial⟩
  · simp only [on_yes hb] at h ⊢
    have := hf (f st).1 (Prod.ext rfl h)
    exact this
theorem listT_app (l : List LB) (r : LB) (h1 : l.length ≤ 255) (h2 : ∀ x ∈ l, x.length ≤ 65535) : listS txtS (lstP l ++ r, false) = (l, (r, false)) := by
  unfold listS lstP
  rw [List.append_assoc, numS_app 1 _ _ (by omega)]
  exact itemsS_app txtS txtP (fun x => x.length ≤ 65535) (fun x r h => txtS_app r h) r l [] h2
theorem listI_app (l : List Int) (r : LB) (h1 : l.length ≤ 255) (h2 : ∀ x ∈ l, wideP x = true) : listS intS (numsP l ++ r, false) = (l, (r, false)) := by
  unfold listS numsP
  rw [List.append_assoc, numS_app 1 _ _ (by omega)]
  exact itemsS_app intS intP (fun x => wideP x = true) (fun x r h => intS_app r h) r l [] h2
theorem numS_false {k n : Nat} {st : St} {st' : St} (h : numS k st = (n, st')) (h2 : st'.2 = false) : ∃ r, st' = (r, false) := ⟨st'.1, Prod.ext rfl h2⟩
theorem itemsS_short {α : Type} (f : St → α × St) (hf : ∀ st, st.2 = true → (f st).2.2 = true) : ∀ (k : Nat) (out : List α) (st : St), st.2 = true → (itemsS f k out st).2.2 = true
  | 0, out, st, h => h
  | k + 1, out, st, h => by
    unfold itemsS
    rw [if_pos (hf st h)]
    exact hf st h
theorem list_back {α : Type} (f : St → α × St) (e : α → LB) (ok : α → Prop) (hs : ∀ st, st.2 = true → (f st).2.2 = true) (hf : ∀ st x r, f st = (x, (r, false)) → st = (e x ++ r, false) ∧ ok x) (st : St) (l : List α) (r : LB) (h : listS f st = (l, (r, false))) :
    st = (be 1 l.length ++ catP (l.map e) ++ r, false) ∧ l.length ≤ 255 ∧ ∀ x ∈ l, ok x := by
  unfold listS at h
  have hb : (numS 1 st).2.2 = false := by
    cases hc : (numS 1 st).2.2 with
    | false => rfl
    | true =>
      have := itemsS_short f hs (numS 1 st).1 [] (numS 1 st).2 hc
      rw [h] at this
      cases this
  obtain ⟨l', e1, e2, e3, e4⟩ := itemsS_back f e ok hf _ _ _ _ _ hb h
  rw [List.nil_append] at e1
  subst e1
  have hn : numS 1 st = (l.length, (catP (l.map e) ++ r, false)) := by
    rw [e2]
    exact Prod.ext rfl e3
  obtain ⟨k1, k2⟩ := numS_back hn
  exact ⟨by rw [k1, List.append_assoc], by omega, e4⟩
theorem listT_back (st : St) (l : List LB) (r : LB) (h : listS txtS st = (l, (r, false))) : st = (lstP l ++ r, false) ∧ (l.length ≤ 255 ∧ ∀ x ∈ l, x.length ≤ 65535) :=
  list_back txtS txtP (fun x => x.length ≤ 65535) (fun st h => txtS_short h) (fun st x r h => txtS_back h) st l r h
theorem listI_back (st : St) (l : List Int) (r : LB) (h : listS intS st = (l, (r, false))) : st = (numsP l ++ r, false) ∧ (l.length ≤ 255 ∧ ∀ x ∈ l, wideP x = true) :=
  list_back intS intP (fun x => wideP x = true) (fun st h => intS_short h) (fun st x r h => intS_back h) st l r h
/-- Small enough to be written. -/
def RQ.fit (r : RQ) : Prop := wideP r.h = true ∧ wideP r.n = true ∧ wideP r.fl = true ∧ r.p.length ≤ 65535 ∧ r.p2.length ≤ 65535 ∧ r.d.length ≤ 65535 ∧ (r.args.length ≤ 255 ∧ ∀ x ∈ r.args, x.length ≤ 65535) ∧ (r.env.length ≤ 255 ∧ ∀ x ∈ r.env, x.length ≤ 65535) ∧ (r.fds.length ≤ 255 ∧ ∀ x ∈ r.fds, wideP x = true)
def RQ.zer (u : Int) (r : RQ) : Prop := (bits .and .i64 u 2 = 0 → r.h = 0) ∧ (bits .and .i64 u 8 = 0 → r.p = []) ∧ (bits .and .i64 u 16 = 0 → r.p2 = []) ∧ (bits .and .i64 u 32 = 0 → r.args = []) ∧ (bits .and .i64 u 64 = 0 → r.env = []) ∧ (bits .and .i64 u 128 = 0 → r.fds = []) ∧ (bits .and .i64 u 256 = 0 → r.fl = 0) ∧ (bits .and .i64 u 512 = 0 → r.n = 0) ∧ (bits .and .i64 u 1024 = 0 → r.d = [])
theorem decX_app (u : Int) (r : RQ) (rest : LB) (h : r.fit) (hz : r.zer u) : decX u r.op (catP (encS u r) ++ rest, false) = (r, (rest, false)) := by
  obtain ⟨op, p, p2, hh, n, fl, d, args, env, fds⟩ := r
  obtain ⟨f1, f2, f3, f4, f5, f6, f7, f8, f9⟩ := h
  obtain ⟨z1, z2, z3, z4, z5, z6, z7, z8, z9⟩ := hz
  dsimp only at *
  have E : catP (encS u ⟨op, p, p2, hh, n, fl, d, args, env, fds⟩) ++ rest = on u 2 (intP hh) [] ++ (on u 8 (txtP p) [] ++ (on u 16 (txtP p2) [] ++ (on u 32 (lstP args) [] ++ (on u 64 (lstP env) [] ++ (on u 128 (numsP fds) [] ++ (on u 256 (intP fl) [] ++ (on u 512 (intP n) [] ++ (on u 1024 (txtP d) [] ++ rest)))))))) := by
    simp only [encS, catP, List.append_assoc, List.append_nil]
  rw [E]
  have g1 := fun r => on_app u 2 intS intP 0 hh r (fun _ => intS_app r f1) z1
  have g2 := fun r => on_app u 8 txtS txtP [] p r (fun _ => txtS_app r f4) z2
  have g3 := fun r => on_app u 16 txtS txtP [] p2 r (fun _ => txtS_app r f5) z3
  have g4 := fun r => on_app u 32 (listS txtS) lstP [] args r (fun _ => listT_app args r f7.1 f7.2) z4
  have g5 := fun r => on_app u 64 (listS txtS) lstP [] env r (fun _ => listT_app env r f8.1 f8.2) z5
  have g6 := fun r => on_app u 128 (listS intS) numsP [] fds r (fun _ => listI_app fds r f9.1 f9.2) z6
  have g7 := fun r => on_app u 256 intS intP 0 fl r (fun _ => intS_app r f3) z7
  have g8 := fun r => on_app u 512 intS intP 0 n r (fun _ => intS_app r f2) z8
  have g9 := fun r => on_app u 1024 txtS txtP [] d r (fun _ => txtS_app r f6) z9
  unfold decX a1 a2 a3 a4 a5 a6 a7 a8 a9
  simp only [g1, g2, g3, g4, g5, g6, g7, g8, g9]
def onP (u k : Int) (ok : Prop) : Prop := on u k ok True
theorem decX_back (u op : Int) (st : St) (rest : LB) (h : (decX u op st).2 = (rest, false)) : st = (catP (encS u (decX u op st).1) ++ rest, false) ∧ (decX u op st).1.fit ∧ (decX u op st).1.zer u ∧ (decX u op st).1.op = op := by
  unfold decX at h ⊢
  dsimp only at h ⊢
  generalize e1 : a1 u st = x1 at *
  generalize e2 : a2 u x1.2 = x2 at *
  generalize e3 : a3 u x2.2 = x3 at *
  generalize e4 : a4 u x3.2 = x4 at *
  generalize e5 : a5 u x4.2 = x5 at *
  generalize e6 : a6 u x5.2 = x6 at *
  generalize e7 : a7 u x6.2 = x7 at *
  generalize e8 : a8 u x7.2 = x8 at *
  generalize e9 : a9 u x8.2 = x9 at *
  have g9 := on_back u 1024 txtS txtP (fun s => s.length ≤ 65535) [] x8.2 rest (fun v h => txtS_back h) (by unfold a9 at e9; rw [e9]; exact h)
  unfold a9 at e9
  rw [e9] at g9
  have g8 := on_back u 512 intS intP (fun s => wideP s = true) 0 x7.2 _ (fun v h => intS_back h) (by unfold a8 at e8; rw [e8]; exact g9.1)
  unfold a8 at e8
  rw [e8] at g8
  have g7 := on_back u 256 intS intP (fun s => wideP s = true) 0 x6.2 _ (fun v h => intS_back h) (by unfold a7 at e7; rw [e7]; exact g8.1)
  unfold a7 at e7
  rw [e7] at g7
  have g6 := on_back u 128 (listS intS) numsP (fun l => l.length ≤ 255 ∧ ∀ x ∈ l, wideP x = true) [] x5.2 _ (fun v h => listI_back _ _ _ h) (by unfold a6 at e6; rw [e6]; exact g7.1)
  unfold a6 at e6
  rw [e6] at g6
  have g5 := on_back u 64 (listS txtS) lstP (fun l => l.length ≤ 255 ∧ ∀ x ∈ l, x.length ≤ 65535) [] x4.2 _ (fun v h => listT_back _ _ _ h) (by unfold a5 at e5; rw [e5]; exact g6.1)
  unfold a5 at e5
  rw [e5] at g5
  have g4 := on_back u 32 (listS txtS) lstP (fun l => l.length ≤ 255 ∧ ∀ x ∈ l, x.length ≤ 65535) [] x3.2 _ (fun v h => listT_back _ _ _ h) (by unfold a4 at e4; rw [e4]; exact g5.1)
  unfold a4 at e4
  rw [e4] at g4
  have g3 := on_back u 16 txtS txtP (fun s => s.length ≤ 65535) [] x2.2 _ (fun v h => txtS_back h) (by unfold a3 at e3; rw [e3]; exact g4.1)
  unfold a3 at e3
  rw [e3] at g3
  have g2 := on_back u 8 txtS txtP (fun s => s.length ≤ 65535) [] x1.2 _ (fun v h => txtS_back h) (by unfold a2 at e2; rw [e2]; exact g3.1)
  unfold a2 at e2
  rw [e2] at g2
  have g1 := on_back u 2 intS intP (fun s => wideP s = true) 0 st _ (fun v h => intS_back h) (by unfold a1 at e1; rw [e1]; exact g2.1)
  unfold a1 at e1
  rw [e1] at g1
  have F : ∀ (k : Int) (A B C : Prop), on u k A B → (A → C) → (B → C) → C := fun k A B C h hA hB => by
    unfold on at h; split at h
    · exact hB h
    · exact hA h
  have Z : ∀ (k : Int) (A B : Prop), on u k A B → bits .and .i64 u k = 0 → B := fun k A B h hk => by rw [on_no hk] at h; exact h
  refine ⟨?_, ⟨?_, ?_, ?_, ?_, ?_, ?_, ?_, ?_, ?_⟩, ⟨Z _ _ _ g1.2, Z _ _ _ g2.2, Z _ _ _ g3.2, Z _ _ _ g4.2, Z _ _ _ g5.2, Z _ _ _ g6.2, Z _ _ _ g7.2, Z _ _ _ g8.2, Z _ _ _ g9.2⟩, rfl⟩
  · rw [g1.1]
    simp only [encS, catP, List.append_assoc, List.append_nil]
  · exact F _ _ _ _ g1.2 id (fun h => by show wideP x1.1 = true; rw [h]; rfl)
  · exact F _ _ _ _ g8.2 id (fun h => by show wideP x8.1 = true; rw [h]; rfl)
  · exact F _ _ _ _ g7.2 id (fun h => by show wideP x7.1 = true; rw [h]; rfl)
  · exact F _ _ _ _ g2.2 id (fun h => by show x2.1.length ≤ 65535; rw [h]; simp)
  · exact F _ _ _ _ g3.2 id (fun h => by show x3.1.length ≤ 65535; rw [h]; simp)
  · exact F _ _ _ _ g9.2 id (fun h => by show x9.1.length ≤ 65535; rw [h]; simp)
  · exact F _ _ _ _ g4.2 id (fun h => by show x4.1.length ≤ 255 ∧ ∀ x ∈ x4.1, x.length ≤ 65535; rw [h]; simp)
  · exact F _ _ _ _ g5.2 id (fun h => by show x5.1.length ≤ 255 ∧ ∀ x ∈ x5.1, x.length ≤ 65535; rw [h]; simp)
  · exact F _ _ _ _ g6.2 id (fun h => by show x6.1.length ≤ 255 ∧ ∀ x ∈ x6.1, wideP x = true; rw [h]; simp)
def usedB (b1 b2 b3 b4 b5 b6 b7 b8 b9 : Bool) : Int := or64 (or64 (or64 (or64 (or64 (or64 (or64 (or64 (pres b1 2) (pres b2 8)) (pres b3 16)) (pres b4 32)) (pres b5 64)) (pres b6 128)) (pres b7 256)) (pres b8 512)) (pres b9 1024)
def okB (u : Int) (b1 b2 b3 b4 b5 b6 b7 b8 b9 : Bool) : Bool := !(bits .andNot .i64 (usedB b1 b2 b3 b4 b5 b6 b7 b8 b9) u == 0) || ((!(bits .and .i64 u 2 == 0) || !b1) && (!(bits .and .i64 u 8 == 0) || !b2) && (!(bits .and .i64 u 16 == 0) || !b3) && (!(bits .and .i64 u 32 == 0) || !b4) && (!(bits .and .i64 u 64 == 0) || !b5) && (!(bits .and .i64 u 128 == 0) || !b6) && (!(bits .and .i64 u 256 == 0) || !b7) && (!(bits .and .i64 u 512 == 0) || !b8) && (!(bits .and .i64 u 1024 == 0) || !b9))
def allB (f : Bool → Bool) : Bool := f false && f true
theorem allB_at {f : Bool → Bool} (h : allB f = true) (b : Bool) : f b = true := by
  have := Bool.and_eq_true_iff.1 h
  cases b
  · exact this.1
  · exact this.2
theorem okB_all : (reqL.all fun e => allB fun b1 => allB fun b2 => allB fun b3 => allB fun b4 => allB fun b5 => allB fun b6 => allB fun b7 => allB fun b8 => allB fun b9 => okB e.2 b1 b2 b3 b4 b5 b6 b7 b8 b9) = true := by kernel_rfl
end Go.Proofs.Ytedacfjkbfgikaa
