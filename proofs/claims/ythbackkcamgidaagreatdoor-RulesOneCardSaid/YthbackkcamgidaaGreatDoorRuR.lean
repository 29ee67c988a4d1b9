/- A range over a function whose rounds may return or panic, in a function whose number is known. No program of the seat's own in it. -/
import Derived.RangeFuncBox
import Derived.RangeFuncLeaves
import Derived.Defers
namespace Go.Proofs.YthbackkcamgidaaGreatDoor
open Go Go.RowKit
set_option linter.unusedVariables false
/-- Code walked in the frames of one function alone. -/
def WpF (f : FuncId) (P : Program) (c : Code) (Q : Exit → Act → World → Prop) (a : Act) (w : World) : Prop :=
  ∀ (b : Frame) (k : List Item) (cs : List Frame), b.roundOf = none → b.fn = f →
    ∃ e a' w', Q e a' w' ∧ ArrivesIn (Machine.fenced P Fence.wide) P (lone (b.atR a (.code c :: k)) cs w) b k cs e a' w'
section
variable {f : FuncId} {P : Program} {Q : Exit → Act → World → Prop} {a : Act} {w : World}
theorem WpF.of {c : Code} (h : c.wp P Q a w) : WpF f P c Q a w := fun b k cs hro _ => (wpIn_wide (n := 0)).2 h b k cs hro trivial (room_wide _)
theorem WpF.mono {c : Code} {Q' : Exit → Act → World → Prop} (h : WpF f P c Q a w) (hq : ∀ e a w, Q e a w → Q' e a w) : WpF f P c Q' a w :=
  fun b k cs hro hb => let ⟨e, a', w', q, r⟩ := h b k cs hro hb; ⟨e, a', w', hq _ _ _ q, r⟩
theorem WpF.seq {x y : Code} (h : WpF f P x (Exit.then (WpF f P y Q) Q) a w) : WpF f P (.seq x y) Q a w := by
  intro b k cs hro hb
  have h0 := fenced_wide P (lone (b.atR a (.code (.seq x y) :: k)) cs w)
  obtain ⟨e, a₁, w₁, hq, harr⟩ := h b (.code y :: k) cs hro hb
  cases e with
  | normal =>
    obtain ⟨e₂, a₂, w₂, hq₂, harr₂⟩ := hq b k cs hro hb
    exact ⟨e₂, a₂, w₂, hq₂, .of_steps (.head h0 stepR_seq harr) harr₂⟩
  | exit id => exact ⟨_, a₁, w₁, hq, .of_steps (.one h0 stepR_seq) (.pass (x := .code y) rfl (fun _ _ => .inl (by simp)) harr)⟩
  | goto l => exact ⟨_, a₁, w₁, hq, .of_steps (.one h0 stepR_seq) (.pass (x := .code y) rfl (fun _ _ => .inl (by simp)) harr)⟩
  | ret => exact ⟨_, a₁, w₁, hq, .of_steps (.one h0 stepR_seq) (.pass (x := .code y) rfl (fun _ _ => .inl (by simp)) harr)⟩
  | panic ch => exact ⟨_, a₁, w₁, hq, .of_steps (.one h0 stepR_seq) (.pass (x := .code y) rfl (fun _ _ => .inl (by simp)) harr)⟩
  | outgrown => exact ⟨_, a₁, w₁, hq, .of_steps (.one h0 stepR_seq) (.pass (x := .code y) rfl (fun _ _ => .inl (by simp)) harr)⟩
theorem WpF.seq_wp {x y : Code} (h : x.wp P (Exit.then (WpF f P y Q) Q) a w) : WpF f P (.seq x y) Q a w := .seq (.of h)
/-- A block that is left off its end, by a return or by a panic. -/
def inB (Q : Exit → Act → World → Prop) : Exit → Act → World → Prop
  | .normal, a, w => Q .normal a w
  | .ret, a, w => Q .ret a w
  | .panic ch, a, w => Q (.panic ch) a w
  | _, _, _ => False
theorem WpF.block {id : Nat} {c : Code} (h : WpF f P c (inB Q) a w) : WpF f P (.block id c) Q a w := by
  intro b k cs hro hb
  have h0 := fenced_wide P (lone (b.atR a (.code (.block id c) :: k)) cs w)
  obtain ⟨e, a₁, w₁, hq, harr⟩ := h b (.inBlock id :: k) cs hro hb
  cases e with
  | normal => exact ⟨.normal, a₁, w₁, hq, .head h0 stepR_block (StepsIn.trans harr (.one (fenced_wide P _) stepR_inBlock))⟩
  | ret => exact ⟨.ret, a₁, w₁, hq, fun hr => let ⟨todo, hs⟩ := harr.1 hr; ⟨todo, .head h0 stepR_block hs⟩, fun hr => let ⟨k₁, hs⟩ := harr.2 hr; ⟨k₁, .head h0 stepR_block hs⟩⟩
  | panic ch => obtain ⟨todo, hs⟩ := harr; exact ⟨.panic ch, a₁, w₁, hq, todo, .head h0 stepR_block hs⟩
  | exit id => exact hq.elim
  | goto l => exact hq.elim
  | outgrown => exact hq.elim
/-- Leaving with marks and deferred calls. -/
def LeavesW (P : Program) (fn : Func) (tmps : Array Value) (R : Ending → World → Prop) : List Deferred → FrameMode → World → Prop
  | [], u, w => Leaves P fn tmps R [] u w
  | d :: ds, u, w => u ≠ .run ∧ ((∃ r w', d.target = .collected r ∧ (Instr.takeDeferred r).run P w = .ok [] w' ∧ LeavesW P fn tmps R ds u w') ∨
      (∃ fv cap f args, d.target = .fn fv cap ∧ (invoke d.target d.args).run P w = .ok (.enter f args) w ∧
        CallsD P f args u w fun
          | .returned _, u', w' => LeavesW P fn tmps R ds (settle u') w'
          | .panicked chain, u', w' => LeavesW P fn tmps R ds (raised u' chain) w'
          | .outgrown, _, w' => R .outgrown w'))
theorem leaves_stepsW {fn : Func} {tmps : Array Value} {R : Ending → World → Prop} : ∀ (ds : List Deferred) (u : FrameMode) (w : World) (fr : Frame)
    (cs : List Frame), fr.mode = u → fr.defers = ds → fr.tmps = tmps → P.funcs[fr.fn]? = some fn → fr.kind = .normal → LeavesW P fn tmps R ds u w →
    ∃ e w' fr', R e w' ∧ Comes P (lone fr cs w) (lone fr' cs w') e ∧ fr'.fn = fr.fn ∧ fr'.leaving P w' e := by
  intro ds
  induction ds with
  | nil => exact fun u w fr cs hu hd ht hf hk h => leaves_steps [] u w fr cs hu hd ht hf hk h
  | cons d ds ih =>
    intro u w fr cs hu hd ht hf hk h
    obtain ⟨hrun, h⟩ := h
    rcases h with ⟨r, w', htar, htake, hrest⟩ | ⟨fv, cap, f, args, htar, hinv, hcall⟩
    · have h1 := step_collected (cs := cs) (hu ▸ hrun) hd htar htake
      obtain ⟨e', w'', fr', hR', hs', hfn', hl'⟩ := ih u w' { fr with defers := [] ++ ds } cs hu rfl ht hf hk hrest
      exact ⟨e', w'', fr', hR', Comes.of_steps (.one h1) hs', hfn', hl'⟩
    · have h1 := step_defer (cs := cs) (hu ▸ hrun) hd htar hinv
      obtain ⟨e, u', w', frX, hR, hsteps, hkX, hgo⟩ := hcall { fr with defers := ds } cs hu
      cases e with
      | returned v =>
        have h2 := step_going_returned (c := { { fr with defers := ds } with mode := u' }) (cs := cs) hkX hgo
        obtain ⟨e', w'', fr', hR', hs', hfn', hl'⟩ := ih (settle u') w' { { { fr with defers := ds } with mode := u' } with mode := settle u' } cs rfl rfl ht hf hk hR
        exact ⟨e', w'', fr', hR', Comes.of_steps (.head h1 (Steps.trans hsteps (.one h2))) hs', hfn', hl'⟩
      | panicked chain =>
        have h2 := step_going_panicked (c := { { fr with defers := ds } with mode := u' }) (cs := cs) hgo
        obtain ⟨e', w'', fr', hR', hs', hfn', hl'⟩ := ih (raised u' chain) w' { { { fr with defers := ds } with mode := u' } with mode := raised u' chain } cs rfl rfl ht hf hk hR
        exact ⟨e', w'', fr', hR', Comes.of_steps (.head h1 (Steps.trans hsteps (.one h2))) hs', hfn', hl'⟩
      | outgrown => exact ⟨.outgrown, w', fr, hR, Outgrown.of_steps (.one h1) hsteps, rfl, trivial⟩
def bodyPostW (P : Program) (fn : Func) (R : Ending → World → Prop) : Exit → Act → World → Prop
  | .normal, a, w | .ret, a, w => LeavesW P fn a.tmps R a.defers .returning w
  | .panic chain, a, w => LeavesW P fn a.tmps R a.defers (.panicking chain) w
  | .outgrown, _, w => R .outgrown w
  | _, _, _ => False
theorem calls_of_wpF {fn : Func} {c : Code} {args : Array Value} {R : Ending → World → Prop} (hf : P.funcs[f]? = some fn) (hb : fn.body = some c)
    (h : WpF f P c (bodyPostW P fn R) { tmps := args ++ Array.replicate (fn.ntmps - args.size) undef, defers := [] } w) : Calls P f args w R := by
  intro cs
  let b : Frame := { (default : Frame) with fn := f, kind := .normal, roundOf := none }
  have henter : Frame.enter P f args .normal =
      b.atR { tmps := args ++ Array.replicate (fn.ntmps - args.size) undef, defers := [] } [.code c] := by
    simp [Frame.enter, Frame.atR, hf, hb, b]
  obtain ⟨e, a', w', hq, harr⟩ := h b [] cs rfl rfl
  rw [← henter] at harr
  cases e with
  | normal =>
    obtain ⟨e', w'', fr', hR, hs, hfn, hl⟩ := leaves_stepsW a'.defers .returning w' { b.atR a' [] with mode := .returning } cs rfl rfl rfl hf rfl hq
    exact ⟨e', w'', fr', hR, Comes.of_steps (Steps.trans (StepsIn.steps harr) (.one (stepR_end rfl))) hs, hfn, hl⟩
  | ret =>
    obtain ⟨todo, hs₀⟩ := harr.1 rfl
    obtain ⟨e', w'', fr', hR, hs, hfn, hl⟩ := leaves_stepsW a'.defers .returning w' { b.atR a' todo with mode := .returning } cs rfl rfl rfl hf rfl hq
    exact ⟨e', w'', fr', hR, Comes.of_steps (StepsIn.steps hs₀) hs, hfn, hl⟩
  | panic chain =>
    obtain ⟨todo, hs₀⟩ := harr
    obtain ⟨e', w'', fr', hR, hs, hfn, hl⟩ := leaves_stepsW a'.defers (.panicking chain) w' { b.atR a' todo with mode := .panicking chain } cs rfl rfl rfl hf rfl hq
    exact ⟨e', w'', fr', hR, Comes.of_steps (StepsIn.steps hs₀) hs, hfn, hl⟩
  | exit id => exact hq.elim
  | goto l => exact hq.elim
  | outgrown => exact ⟨.outgrown, w', b, hq, harr.resolve_left (by simp [b]), rfl, trivial⟩
/-- A round that may panic. -/
def roundPostP (P : Program) (l : Nat) (R : Ending → World → Prop) : Exit → Act → World → Prop
  | .normal, _, w => ∃ v w', (Instr.endRound l none).run P w = .ok v w' ∧ R (.returned v) w'
  | .ret, _, w => ∃ v w', (Instr.endRound l (some .ret)).run P w = .ok v w' ∧ R (.returned v) w'
  | .panic chain, a, w => a.defers = [] ∧ R (.panicked chain) w
  | _, _, _ => False
theorem roundIn_p {l : Nat} {fn : Func} {tmps : Array Value} {assign body : Code} {R : Ending → World → Prop} (hf : P.funcs[f]? = some fn)
    (h : assign.wpIn (Fence.wide.inRound l) 0 P (Exit.then (fun a₁ w₁ => ∃ w₂, (Instr.beginRound l).run P w₁ = .ok () w₂ ∧ body.wpIn (Fence.wide.inRound l) 0 P (roundPostP P l R) a₁ w₂) (fun _ _ _ => False))
      { tmps := tmps, defers := [] } w) : RoundIn Fence.wide 0 P l f tmps assign body w R := by
  refine ⟨trivial, fun c cs hr => ?_⟩
  let b : Frame := { (default : Frame) with fn := f, kind := .normal, roundOf := some l }
  have hb0 : Frame.round l f tmps assign body .normal = b.atR { tmps := tmps, defers := [] } [.code assign, .beginRound, .code body] := by
    simp [Frame.round, Frame.atR, b]
  obtain ⟨e, a₁, w₁, hq, harr⟩ := h b [.beginRound, .code body] (c :: cs) rfl trivial (room_wide _)
  rw [← hb0] at harr
  cases e with
  | normal =>
    obtain ⟨w₂, hbr, hbody⟩ := hq
    have s1 : StepsIn (Machine.fenced P Fence.wide) P (lone (b.atR a₁ [.beginRound, .code body]) (c :: cs) w₁) (lone (b.atR a₁ [.code body]) (c :: cs) w₂) :=
      .one (fenced_wide P _) (stepR_beginRound rfl hbr)
    obtain ⟨e₂, a₂, w₃, hq₂, harr₂⟩ := hbody b [] (c :: cs) rfl trivial (room_wide _)
    cases e₂ with
    | normal =>
      obtain ⟨v, w₄, hend, hR⟩ := hq₂
      exact ⟨.returned v, w₄, hR, (StepsIn.trans harr s1).trans (StepsIn.trans harr₂ (.one (fenced_wide P _) (stepR_round_end rfl rfl hend)))⟩
    | ret =>
      obtain ⟨v, w₄, hend, hR⟩ := hq₂
      obtain ⟨k₁, hs⟩ := harr₂.2 rfl
      exact ⟨.returned v, w₄, hR, (StepsIn.trans harr s1).trans (StepsIn.trans hs (.one (fenced_wide P _) (stepR_round_ret rfl rfl hend)))⟩
    | panic chain =>
      obtain ⟨hd, hR⟩ := hq₂
      obtain ⟨todo, hs⟩ := harr₂
      exact ⟨.panicked chain, w₃, hR, (StepsIn.trans harr s1).trans (StepsIn.trans hs (.one (fenced_wide P _) (step_leave_panicked ⟨rfl, hd, fn, hf⟩)))⟩
    | exit id => exact hq₂.elim
    | goto t => exact hq₂.elim
    | outgrown => exact hq₂.elim
  | exit id => exact hq.elim
  | goto t => exact hq.elim
  | ret => exact hq.elim
  | panic chain => exact hq.elim
  | outgrown => exact hq.elim
/-- What holds between two rounds: with the loop's record and the block for the rounds' deferred calls. -/
def JL {α : Type} (d : Nat) (R : Obj) (I : List α → World → Prop) (s : List α) (W : World) : Prop := I s W ∧ W.heap[d + 1]? = some R ∧ W.heap[d]? = some (.deferred (some []))
def JZ (d : Nat) (R : Obj) (Z : World → Prop) (W : World) : Prop := Z W ∧ W.heap[d + 1]? = some R ∧ W.heap[d]? = some (.deferred (some []))
def JP (d : Nat) (Zp : List PanicEntry → World → Prop) (ch : List PanicEntry) (W : World) : Prop := Zp ch W ∧ W.heap[d]? = some (.deferred (some []))
/-- How a round ends. -/
def RdEnd {α : Type} (l : Nat) (o : Obj) (T : World → World → Prop) (I : List α → World → Prop) (Z : World → Prop) (Zp : List PanicEntry → World → Prop) (s : List α) (W : World) (e : Exit) (a' : Act) (W' : World) : Prop :=
  T W W' ∧ W'.heap[l]? = some o ∧ ((e = .normal ∧ I s W') ∨ (e = .ret ∧ Z W') ∨ (∃ ch, e = .panic ch ∧ a'.defers = [] ∧ Zp ch W'))
def YiEnd {α : Type} (d : Nat) (R D : Obj) (T : World → World → Prop) (I : List α → World → Prop) (Z : World → Prop) (Zp : List PanicEntry → World → Prop) (s : List α) (W : World) (e : Ending) (W' : World) : Prop :=
  T W W' ∧ ((e = .returned (.bool true) ∧ JL d R I s W') ∨ (e = .returned (.bool false) ∧ JZ d D Z W') ∨ (∃ ch, e = .panicked ch ∧ JP d Zp ch W'))
def ItEnd {α : Type} (d : Nat) (R D : Obj) (I : List α → World → Prop) (Z : World → Prop) (Zp : List PanicEntry → World → Prop) (xs : List α) (e : Ending) (W' : World) : Prop :=
  (∃ v, e = .returned v ∧ (JL d R I xs W' ∨ JZ d D Z W')) ∨ (∃ ch, e = .panicked ch ∧ JP d Zp ch W')
theorem WpF.range {α : Type} {g : Operand} {ps : Array Tmp} {assign body : Code} {fn0 : Func} {d : Nat} (hd : w.heap.size = d) (hf : P.funcs[f]? = some fn0)
    {gf : Nat} {lb : Array Value} (hg : a.eval g = .func (.func gf) #[] lb) (eg : ∀ args w, (callFunc gf args).run P w = .ok (.enter gf args) w)
    (encs : α → Array Value) (hps : ∀ x, (encs x).size = ps.size) (T : World → World → Prop)
    (hT : ∀ W W', T W W' → W'.heap[d]? = some (.deferred (some [])) ∨ W.heap[d]? ≠ some (.deferred (some [])))
    (hTp : ∀ W W' o, T W W' → T W (W'.putObj (d + 1) o))
    (I : List α → World → Prop) (Z : World → Prop) (Zp : List PanicEntry → World → Prop)
    (hI : ∀ s W l o o', I s W → d ≤ l → W.heap[l]? = some o' → o'.isCells = false → o'.isWalk = false → I s (W.putObj l o))
    (hZ : ∀ W l o o', Z W → d ≤ l → W.heap[l]? = some o' → o'.isCells = false → o'.isWalk = false → Z (W.putObj l o))
    (xs : List α) (h0 : ∀ o1 o2, I [] ((w.alloc o1).alloc o2))
    (hround : ∀ (pre : List α) (x : α) (W : World), I pre W → (pre ++ [x]) <+: xs → (∃ o, W.heap[d + 1]? = some o ∧ o.isCells = false ∧ o.isWalk = false) →
      assign.wpIn (Fence.wide.inRound (d + 1)) 0 P (Exit.then (fun a₁ W₁ => W₁.heap[d + 1]? = W.heap[d + 1]? ∧ ∀ o, o.isCells = false → o.isWalk = false →
        body.wpIn (Fence.wide.inRound (d + 1)) 0 P (RdEnd (d + 1) o T I Z Zp (pre ++ [x]) W) a₁ (W₁.putObj (d + 1) o)) (fun _ _ _ => False))
        { tmps := (ps.zip (encs x)).foldl (fun t (p, v) => t.setIfInBounds p v) a.tmps, defers := [] } W)
    (hiter : ∀ (R D : Obj) (W : World), R.isCells = false → R.isWalk = false → D.isCells = false → D.isWalk = false → (∃ o1 o2, W = (w.alloc o1).alloc o2) → JL d R I [] W →
      (∀ pre x W1, JL d R I pre W1 → (pre ++ [x]) <+: xs → YieldAt Fence.wide 0 P (d + 1) (encs x) W1 (YiEnd d R D T I Z Zp (pre ++ [x]) W1)) →
      CallsIn Fence.wide 0 P gf (#[.func (.yield (d + 1)) #[] #[]] ++ lb) W (ItEnd d R D I Z Zp xs))
    (hdone : ∀ (W : World), I xs W → W.heap[d]? = some (.deferred (some [])) → Q .normal { a with defers := { target := .collected d, args := #[] } :: a.defers } W)
    (hret : ∀ (W : World), Z W → W.heap[d]? = some (.deferred (some [])) → Q .ret { a with defers := { target := .collected d, args := #[] } :: a.defers } W)
    (hpan : ∀ ch (W : World), Zp ch W → W.heap[d]? = some (.deferred (some [])) → Q (.panic ch) { a with defers := { target := .collected d, args := #[] } :: a.defers } W) :
    WpF f P (.rangeFunc g ps assign body) Q a w := by
  intro b k cs hro hbf
  obtain ⟨rec, hrec⟩ : ∃ rec : LoopState → Option Code → Loop, rec = fun st pe => { state := st, pending := pe, fn := f, tmps := a.tmps, params := ps, assign, body, defers := d } := ⟨_, rfl⟩
  obtain ⟨W1, hW1⟩ : ∃ W, (w.alloc (.deferred (some []))).alloc (.loop (rec .ready none)) = W := ⟨_, rfl⟩
  have hL1 : W1.heap[d + 1]? = some (.loop (rec .ready none)) := by
    have := World.alloc_heap_new (w.alloc (.deferred (some []))) (.loop (rec .ready none))
    rwa [World.size_alloc, hd, hW1] at this
  have hD1 : W1.heap[d]? = some (.deferred (some [])) := by
    have h2 := World.alloc_heap_new w (.deferred (some []))
    rw [hd] at h2
    rw [← hW1]
    exact (Below.heap_alloc _ _ _ (by simp; omega)).trans h2
  have he : (Instr.enterLoop b.fn a.tmps ps assign body b.roundOf).run P w = .ok (d + 1, [{ target := .collected d, args := #[] }]) W1 := by
    rw [hro, hbf]
    have := run_enterLoop_outer (P := P) f a.tmps ps assign body (w := w)
    rw [hd] at this
    rw [this, ← hW1, hrec]
  have hres : (resolve a.eval (rangeCall g (d + 1)) 0).run P W1 = .ok { target := .fn (.func gf) lb, args := #[.func (.yield (d + 1)) #[] #[]] } W1 := by
    simp only [resolve, hg]
    simp [go_sem]
  have hinv : (invoke (.fn (.func gf) lb) #[.func (.yield (d + 1)) #[] #[]]).run P W1 = .ok (.enter gf (#[.func (.yield (d + 1)) #[] #[]] ++ lb)) W1 := by
    simp [invoke, go_sem, eg]
  have henter := stepR_rangeFunc (P := P) (b := b) (a := a) (k := k) (cs := cs) (w := w) he hres hinv
  have hY : ∀ pre x W1, JL d (.loop (rec .ready none)) I pre W1 → (pre ++ [x]) <+: xs → YieldAt Fence.wide 0 P (d + 1) (encs x) W1 (YiEnd d (.loop (rec .ready none)) (.loop (rec .done (some .ret))) T I Z Zp (pre ++ [x]) W1) := by
    rintro pre x W ⟨hi, hl, hk⟩ hpx
    have hlt : d + 1 < W.heap.size := (Array.getElem?_eq_some_iff.1 hl).1
    have hy := run_yield (P := P) (args := encs x) hl (by rw [hrec]; exact hps x)
    rw [hrec] at hy
    refine ⟨f, _, assign, body, hy, roundIn_p hf ?_⟩
    refine wpIn_mono (hround pre x W hi hpx ⟨_, hl, rfl, rfl⟩) ?_
    intro e a1 W2 hq
    cases e with
    | normal =>
      obtain ⟨hl2, hb2⟩ := hq
      rw [hl] at hl2
      refine ⟨_, run_beginRound hl2 (by rw [hrec]), ?_⟩
      refine wpIn_mono (hb2 _ rfl rfl) ?_
      rintro e a3 W3 ⟨hTT, hl3, hcase⟩
      have hd3 : W3.heap[d]? = some (.deferred (some [])) := (hT _ _ hTT).resolve_right (fun h => h hk)
      have hlt3 := (Array.getElem?_eq_some_iff.1 hl3).1
      rcases hcase with ⟨rfl, hi3⟩ | ⟨rfl, hz3⟩ | ⟨ch, rfl, hdf, hp3⟩
      · have hend := run_endRound (P := P) none hl3
        refine ⟨_, _, hend, hTp _ _ _ hTT, .inl ⟨rfl, hI _ _ _ _ _ hi3 (by omega) hl3 rfl rfl, ?_, (World.putObj_heap_other (by omega)).trans hd3⟩⟩
        rw [World.putObj_heap_same hlt3, hrec]; rfl
      · have hend := run_endRound (P := P) (some .ret) hl3
        refine ⟨_, _, hend, hTp _ _ _ hTT, .inr (.inl ⟨rfl, hZ _ _ _ _ hz3 (by omega) hl3 rfl rfl, ?_, (World.putObj_heap_other (by omega)).trans hd3⟩)⟩
        rw [World.putObj_heap_same hlt3, hrec]; rfl
      · exact ⟨hdf, hTT, .inr (.inr ⟨ch, rfl, hp3, hd3⟩)⟩
    | exit id => exact hq.elim
    | goto l => exact hq.elim
    | ret => exact hq.elim
    | panic ch => exact hq.elim
    | outgrown => exact hq.elim
  have hJ0 : JL d (.loop (rec .ready none)) I [] W1 := ⟨by rw [← hW1]; exact h0 _ _, hL1, hD1⟩
  obtain ⟨hF, hcall⟩ := hiter _ _ W1 rfl rfl rfl rfl ⟨_, _, hW1.symm⟩ hJ0 hY
  obtain ⟨e, w₃, fr, hR, hsteps, hfn, hleave⟩ := hcall (b.atR { a with defers := [{ target := .collected d, args := #[] }] ++ a.defers } (.inRangeFunc (d + 1) :: k) :: cs) (room_wide _)
  have h0' := fenced_wide P (lone (b.atR a (.code (.rangeFunc g ps assign body) :: k)) cs w)
  rcases hR with ⟨v, rfl, hJ⟩ | ⟨ch, rfl, hz, hdd⟩
  · have hl := fenced_wide P (lone fr (b.atR { a with defers := [{ target := .collected d, args := #[] }] ++ a.defers } (.inRangeFunc (d + 1) :: k) :: cs) w₃)
    have sback : ∀ (jump : Option Code) (w₄ : World), (Instr.endLoop (d + 1)).run P w₃ = .ok jump w₄ → StepsIn (Machine.fenced P Fence.wide) P (lone (b.atR a (.code (.rangeFunc g ps assign body) :: k)) cs w) (lone (b.atR { a with defers := [{ target := .collected d, args := #[] }] ++ a.defers } ((jump.map Item.code).toList ++ k)) cs w₄) := by
      intro jump w₄ hend
      refine .head h0' henter (StepsIn.trans hsteps (.head hl ?_ (.one (fenced_wide P _) (stepR_endRangeFunc hend))))
      rw [← finish_atR_inRangeFunc (d + 1) v]; exact step_leave_returned hleave
    rcases hJ with ⟨hi, hl3, hdd⟩ | ⟨hz, hl3, hdd⟩
    · have hend := run_endLoop (P := P) hl3 (by rw [hrec]; simp)
      have hs := sback _ _ hend
      rw [hrec] at hs
      exact ⟨.normal, _, _, hdone _ (hI _ _ _ (.loop { rec .ready none with state := .exhausted }) _ hi (by omega) hl3 rfl rfl) ((World.putObj_heap_other (by omega)).trans hdd), by rw [hrec]; exact hs⟩
    · have hend := run_endLoop (P := P) hl3 (by rw [hrec]; simp)
      have hs := sback _ _ hend
      rw [hrec] at hs
      refine ⟨.ret, _, _, hret _ (hZ _ _ (.loop { rec .done (some .ret) with state := .exhausted }) _ hz (by omega) hl3 rfl rfl) ((World.putObj_heap_other (by omega)).trans hdd), fun _ => ⟨.code .ret :: k, ?_⟩, fun h => by rw [hro] at h; cases h⟩
      rw [hrec]
      exact StepsIn.trans hs (.one (fenced_wide P _) (stepR_ret hro))
  · have hl := fenced_wide P (lone fr (b.atR { a with defers := [{ target := .collected d, args := #[] }] ++ a.defers } (.inRangeFunc (d + 1) :: k) :: cs) w₃)
    refine ⟨.panic ch, _, w₃, hpan ch w₃ hz hdd, .inRangeFunc (d + 1) :: k, .head h0' henter (StepsIn.trans hsteps (.one hl ?_))⟩
    rw [← Frame.raise_atR]; exact step_leave_panicked hleave
def ItEnd2 {α : Type} (d : Nat) (R D : Obj) (I : List α → World → Prop) (Z : World → Prop) (Zp : List PanicEntry → World → Prop) (Fin : List α → Prop) (e : Ending) (W' : World) : Prop :=
  (∃ v, e = .returned v ∧ ((∃ xs, Fin xs ∧ JL d R I xs W') ∨ JZ d D Z W')) ∨ (∃ ch, e = .panicked ch ∧ JP d Zp ch W')
theorem WpF.range2 {α : Type} {g : Operand} {ps : Array Tmp} {assign body : Code} {fn0 : Func} {d : Nat} (hd : w.heap.size = d) (hf : P.funcs[f]? = some fn0)
    {gf : Nat} {lb : Array Value} (hg : a.eval g = .func (.func gf) #[] lb) (eg : ∀ args w, (callFunc gf args).run P w = .ok (.enter gf args) w)
    (encs : α → Array Value) (hps : ∀ x, (encs x).size = ps.size) (T : World → World → Prop)
    (hT : ∀ W W', T W W' → W'.heap[d]? = some (.deferred (some [])) ∨ W.heap[d]? ≠ some (.deferred (some [])))
    (hTp : ∀ W W' o, T W W' → T W (W'.putObj (d + 1) o))
    (I : List α → World → Prop) (Z : World → Prop) (Zp : List PanicEntry → World → Prop)
    (hI : ∀ s W l o o', I s W → d ≤ l → W.heap[l]? = some o' → o'.isCells = false → o'.isWalk = false → I s (W.putObj l o))
    (hZ : ∀ W l o o', Z W → d ≤ l → W.heap[l]? = some o' → o'.isCells = false → o'.isWalk = false → Z (W.putObj l o))
    (Ok Fin : List α → Prop) (Pre : α → World → Prop) (h0 : ∀ o1 o2, I [] ((w.alloc o1).alloc o2))
    (hround : ∀ (pre : List α) (x : α) (W : World), I pre W → Ok (pre ++ [x]) → Pre x W → (∃ o, W.heap[d + 1]? = some o ∧ o.isCells = false ∧ o.isWalk = false) →
      assign.wpIn (Fence.wide.inRound (d + 1)) 0 P (Exit.then (fun a₁ W₁ => W₁.heap[d + 1]? = W.heap[d + 1]? ∧ ∀ o, o.isCells = false → o.isWalk = false →
        body.wpIn (Fence.wide.inRound (d + 1)) 0 P (RdEnd (d + 1) o T I Z Zp (pre ++ [x]) W) a₁ (W₁.putObj (d + 1) o)) (fun _ _ _ => False))
        { tmps := (ps.zip (encs x)).foldl (fun t (p, v) => t.setIfInBounds p v) a.tmps, defers := [] } W)
    (hiter : ∀ (R D : Obj) (W : World), R.isCells = false → R.isWalk = false → D.isCells = false → D.isWalk = false → (∃ o1 o2, W = (w.alloc o1).alloc o2) → JL d R I [] W →
      (∀ pre x W1, JL d R I pre W1 → Ok (pre ++ [x]) → Pre x W1 → YieldAt Fence.wide 0 P (d + 1) (encs x) W1 (YiEnd d R D T I Z Zp (pre ++ [x]) W1)) →
      CallsIn Fence.wide 0 P gf (#[.func (.yield (d + 1)) #[] #[]] ++ lb) W (ItEnd2 d R D I Z Zp Fin))
    (hdone : ∀ (xs : List α) (W : World), Fin xs → I xs W → W.heap[d]? = some (.deferred (some [])) → Q .normal { a with defers := { target := .collected d, args := #[] } :: a.defers } W)
    (hret : ∀ (W : World), Z W → W.heap[d]? = some (.deferred (some [])) → Q .ret { a with defers := { target := .collected d, args := #[] } :: a.defers } W)
    (hpan : ∀ ch (W : World), Zp ch W → W.heap[d]? = some (.deferred (some [])) → Q (.panic ch) { a with defers := { target := .collected d, args := #[] } :: a.defers } W) :
    WpF f P (.rangeFunc g ps assign body) Q a w := by
  intro b k cs hro hbf
  obtain ⟨rec, hrec⟩ : ∃ rec : LoopState → Option Code → Loop, rec = fun st pe => { state := st, pending := pe, fn := f, tmps := a.tmps, params := ps, assign, body, defers := d } := ⟨_, rfl⟩
  obtain ⟨W1, hW1⟩ : ∃ W, (w.alloc (.deferred (some []))).alloc (.loop (rec .ready none)) = W := ⟨_, rfl⟩
  have hL1 : W1.heap[d + 1]? = some (.loop (rec .ready none)) := by
    have := World.alloc_heap_new (w.alloc (.deferred (some []))) (.loop (rec .ready none))
    rwa [World.size_alloc, hd, hW1] at this
  have hD1 : W1.heap[d]? = some (.deferred (some [])) := by
    have h2 := World.alloc_heap_new w (.deferred (some []))
    rw [hd] at h2
    rw [← hW1]
    exact (Below.heap_alloc _ _ _ (by simp; omega)).trans h2
  have he : (Instr.enterLoop b.fn a.tmps ps assign body b.roundOf).run P w = .ok (d + 1, [{ target := .collected d, args := #[] }]) W1 := by
    rw [hro, hbf]
    have := run_enterLoop_outer (P := P) f a.tmps ps assign body (w := w)
    rw [hd] at this
    rw [this, ← hW1, hrec]
  have hres : (resolve a.eval (rangeCall g (d + 1)) 0).run P W1 = .ok { target := .fn (.func gf) lb, args := #[.func (.yield (d + 1)) #[] #[]] } W1 := by
    simp only [resolve, hg]
    simp [go_sem]
  have hinv : (invoke (.fn (.func gf) lb) #[.func (.yield (d + 1)) #[] #[]]).run P W1 = .ok (.enter gf (#[.func (.yield (d + 1)) #[] #[]] ++ lb)) W1 := by
    simp [invoke, go_sem, eg]
  have henter := stepR_rangeFunc (P := P) (b := b) (a := a) (k := k) (cs := cs) (w := w) he hres hinv
  have hY : ∀ pre x W1, JL d (.loop (rec .ready none)) I pre W1 → Ok (pre ++ [x]) → Pre x W1 → YieldAt Fence.wide 0 P (d + 1) (encs x) W1 (YiEnd d (.loop (rec .ready none)) (.loop (rec .done (some .ret))) T I Z Zp (pre ++ [x]) W1) := by
    rintro pre x W ⟨hi, hl, hk⟩ hpx hpre
    have hlt : d + 1 < W.heap.size := (Array.getElem?_eq_some_iff.1 hl).1
    have hy := run_yield (P := P) (args := encs x) hl (by rw [hrec]; exact hps x)
    rw [hrec] at hy
    refine ⟨f, _, assign, body, hy, roundIn_p hf ?_⟩
    refine wpIn_mono (hround pre x W hi hpx hpre ⟨_, hl, rfl, rfl⟩) ?_
    intro e a1 W2 hq
    cases e with
    | normal =>
      obtain ⟨hl2, hb2⟩ := hq
      rw [hl] at hl2
      refine ⟨_, run_beginRound hl2 (by rw [hrec]), ?_⟩
      refine wpIn_mono (hb2 _ rfl rfl) ?_
      rintro e a3 W3 ⟨hTT, hl3, hcase⟩
      have hd3 : W3.heap[d]? = some (.deferred (some [])) := (hT _ _ hTT).resolve_right (fun h => h hk)
      have hlt3 := (Array.getElem?_eq_some_iff.1 hl3).1
      rcases hcase with ⟨rfl, hi3⟩ | ⟨rfl, hz3⟩ | ⟨ch, rfl, hdf, hp3⟩
      · have hend := run_endRound (P := P) none hl3
        refine ⟨_, _, hend, hTp _ _ _ hTT, .inl ⟨rfl, hI _ _ _ _ _ hi3 (by omega) hl3 rfl rfl, ?_, (World.putObj_heap_other (by omega)).trans hd3⟩⟩
        rw [World.putObj_heap_same hlt3, hrec]; rfl
      · have hend := run_endRound (P := P) (some .ret) hl3
        refine ⟨_, _, hend, hTp _ _ _ hTT, .inr (.inl ⟨rfl, hZ _ _ _ _ hz3 (by omega) hl3 rfl rfl, ?_, (World.putObj_heap_other (by omega)).trans hd3⟩)⟩
        rw [World.putObj_heap_same hlt3, hrec]; rfl
      · exact ⟨hdf, hTT, .inr (.inr ⟨ch, rfl, hp3, hd3⟩)⟩
    | exit id => exact hq.elim
    | goto l => exact hq.elim
    | ret => exact hq.elim
    | panic ch => exact hq.elim
    | outgrown => exact hq.elim
  have hJ0 : JL d (.loop (rec .ready none)) I [] W1 := ⟨by rw [← hW1]; exact h0 _ _, hL1, hD1⟩
  obtain ⟨hF, hcall⟩ := hiter _ _ W1 rfl rfl rfl rfl ⟨_, _, hW1.symm⟩ hJ0 hY
  obtain ⟨e, w₃, fr, hR, hsteps, hfn, hleave⟩ := hcall (b.atR { a with defers := [{ target := .collected d, args := #[] }] ++ a.defers } (.inRangeFunc (d + 1) :: k) :: cs) (room_wide _)
  have h0' := fenced_wide P (lone (b.atR a (.code (.rangeFunc g ps assign body) :: k)) cs w)
  rcases hR with ⟨v, rfl, hJ⟩ | ⟨ch, rfl, hz, hdd⟩
  · have hl := fenced_wide P (lone fr (b.atR { a with defers := [{ target := .collected d, args := #[] }] ++ a.defers } (.inRangeFunc (d + 1) :: k) :: cs) w₃)
    have sback : ∀ (jump : Option Code) (w₄ : World), (Instr.endLoop (d + 1)).run P w₃ = .ok jump w₄ → StepsIn (Machine.fenced P Fence.wide) P (lone (b.atR a (.code (.rangeFunc g ps assign body) :: k)) cs w) (lone (b.atR { a with defers := [{ target := .collected d, args := #[] }] ++ a.defers } ((jump.map Item.code).toList ++ k)) cs w₄) := by
      intro jump w₄ hend
      refine .head h0' henter (StepsIn.trans hsteps (.head hl ?_ (.one (fenced_wide P _) (stepR_endRangeFunc hend))))
      rw [← finish_atR_inRangeFunc (d + 1) v]; exact step_leave_returned hleave
    rcases hJ with ⟨xs, hfin, hi, hl3, hdd⟩ | ⟨hz, hl3, hdd⟩
    · have hend := run_endLoop (P := P) hl3 (by rw [hrec]; simp)
      have hs := sback _ _ hend
      rw [hrec] at hs
      exact ⟨.normal, _, _, hdone xs _ hfin (hI _ _ _ (.loop { rec .ready none with state := .exhausted }) _ hi (by omega) hl3 rfl rfl) ((World.putObj_heap_other (by omega)).trans hdd), by rw [hrec]; exact hs⟩
    · have hend := run_endLoop (P := P) hl3 (by rw [hrec]; simp)
      have hs := sback _ _ hend
      rw [hrec] at hs
      refine ⟨.ret, _, _, hret _ (hZ _ _ (.loop { rec .done (some .ret) with state := .exhausted }) _ hz (by omega) hl3 rfl rfl) ((World.putObj_heap_other (by omega)).trans hdd), fun _ => ⟨.code .ret :: k, ?_⟩, fun h => by rw [hro] at h; cases h⟩
      rw [hrec]
      exact StepsIn.trans hs (.one (fenced_wide P _) (stepR_ret hro))
  · have hl := fenced_wide P (lone fr (b.atR { a with defers := [{ target := .collected d, args := #[] }] ++ a.defers } (.inRangeFunc (d + 1) :: k) :: cs) w₃)
    refine ⟨.panic ch, _, w₃, hpan ch w₃ hz hdd, .inRangeFunc (d + 1) :: k, .head h0' henter (StepsIn.trans hsteps (.one hl ?_))⟩
    rw [← Frame.raise_atR]; exact step_leave_panicked hleave
end
end Go.Proofs.YthbackkcamgidaaGreatDoor
