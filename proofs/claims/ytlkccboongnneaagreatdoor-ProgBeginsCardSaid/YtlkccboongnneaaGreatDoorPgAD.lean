/- What the laws ask at any rate. -/
import Derived.Test.YtlkccboongnneaaGreatDoorPgAC
namespace Go.Proofs.YtlkccboongnneaaGreatDoor
open Go.RowKit
set_option linter.unusedVariables false
theorem in_on {w w' : World} {p : PR} {s : PS} (h : InP w w.heap.size p s) (hb : Below w.heap.size w w') : InP w' w'.heap.size p s := (h.below hb).more hb.size
theorem on_alloc (w : World) (o : Obj) : Below w.heap.size w (w.alloc o) := (Below.refl _ _).alloc (Nat.le_refl _) o
def hP0 : PR := bornP 1 [101, 99, 104, 111] [[101, 99, 104, 111], [97], [98]] [] [0, 1, 2]
def hQ : PR := ⟨1, [101, 99, 104, 111], [[101, 99, 104, 111], [97], [98]], [], [0, 1, 2], false, 0, 3, 0, [32, 98, 10]⟩
def hR : PR := ⟨1, [101, 99, 104, 111], [[101, 99, 104, 111], [97], [98]], [], [0, 1, 2], false, 0, 4, 0, []⟩
def hC0 : PR := bornP 1 [99, 97, 116] [] [] []
def hC : PR := ⟨1, [99, 97, 116], [], [], [], false, 0, 2, 0, [120]⟩
def hX : PR := bornP 1 [119, 104, 97, 116] [] [] []
theorem n_P0 : nextP hP0 = ⟨2, 1, 0, [97, 32, 98, 10], 0⟩ := by rfl
theorem a_P0 : afterP hP0 1 [] = hQ := by rfl
theorem a_Q : afterP hQ 9 [] = hR := by rfl
theorem n_R : nextP hR = ⟨3, 0, 0, [], 0⟩ := by rfl
theorem a_C0 : afterP hC0 0 [120] = hC := by rfl
theorem n_X : nextP hX = ⟨3, 0, 0, [], 127⟩ := by rfl
theorem p_cat : progP [35, 33, 99, 97, 116, 10, 120] = ([99, 97, 116], true) := by decide
theorem p_rm : progP [35, 33, 114, 109] = ([], false) := by decide
theorem k_wc : (prgF [119, 99]).isSome = true := by decide
theorem k_no : (prgF []).isSome = false := by decide
theorem fit_of {p : PR} (h : (decide (p.args.length ≤ 1000) && decide (p.env.length ≤ 1000) && decide (p.fds.length ≤ 1000) && decide (p.buf.length ≤ 500000) && !p.done && p.args.all (fun x => decide (x.length ≤ 10000)) && decide (-9223372036854775808 ≤ p.status ∧ p.status ≤ 9223372036854775807) && decide (-9223372036854775808 ≤ p.phase ∧ p.phase ≤ 9223372036854775807) && decide (-9223372036854775808 ≤ p.count ∧ p.count ≤ 9223372036854775807) && decide (p.prog.length ≤ 1000000)) = true) : FitP p := by
  simp only [Bool.and_eq_true, decide_eq_true_eq, Bool.not_eq_true', List.all_eq_true] at h
  obtain ⟨⟨⟨⟨⟨⟨⟨⟨⟨h1, h2⟩, h3⟩, h4⟩, h5⟩, h6⟩, h7⟩, h8⟩, h9⟩, h10⟩ := h
  exact ⟨h1, h2, h3, h4, h5, h6, h7, h8, h9, h10⟩
theorem f_P0 : FitP hP0 := fit_of (by decide)
theorem f_Q : FitP hQ := fit_of (by decide)
theorem f_R : FitP hR := fit_of (by decide)
theorem f_C0 : FitP hC0 := fit_of (by decide)
theorem f_X : FitP hX := fit_of (by decide)
theorem t_P0 : toldB hP0.prog := .inr (.inl rfl)
theorem t_C0 : toldB hC0.prog := .inr (.inr (.inl rfl))
theorem t_X : toldB hX.prog := .inl rfl
/-- Begin, Next and After at a literal child. -/
theorem beginL (prog : Bs) (args : List Bs) (fds : List Int) (A : Option Addr) (an : Nat) (F : Option Addr) (fn : Nat) (w : World) (h1 : Reads w w.heap.size 1 A an (svs args)) (h3 : Reads w w.heap.size 1 F fn (ivs fds)) (hn : an ≤ 1000 ∧ fn ≤ 1000) :
    Calls Tryz.prog 10 #[.int .i64 1, .string ⟨prog.toArray⟩, .slice A an an, .slice none 0 0, .slice F fn fn] w fun e w' => ∃ s, e = .returned (.agg #[Value.int .i64 (bornP 1 prog args [] fds).pid, .string ⟨(bornP 1 prog args [] fds).prog.toArray⟩, .slice s.A s.an s.ac, .slice s.E s.en s.ec, .slice s.F s.fn s.fc, .bool (bornP 1 prog args [] fds).done, .int .i64 (bornP 1 prog args [] fds).status, .int .i64 (bornP 1 prog args [] fds).phase, .int .i64 (bornP 1 prog args [] fds).count, .slice s.D s.dn s.dc]) ∧ InP w' w'.heap.size (bornP 1 prog args [] fds) s ∧ Below w.heap.size w w' := by
  refine (begin_any 1 prog args [] fds A an an none 0 0 F fn fn w h1 ⟨rfl, fun h => absurd h (by omega)⟩ h3 ⟨by omega, by omega, by omega⟩).mono ?_
  rintro e w' ⟨s, rfl, ho, hb⟩
  exact ⟨s, rfl, ho.in_, hb⟩
theorem nextL {p : PR} {a : AC} (hN : nextP p = a) (hf : FitP p) (hj : (Lib.join p.args.tail [32]).length ≤ 400000) (ht : toldB p.prog) (s : PS) (w w0 : World) (hI : InP w w.heap.size p s) (hS : StB w0.heap.size w0) (hb : Below w0.heap.size w0 w) :
    Calls Tryz.prog 20 #[.agg #[Value.int .i64 p.pid, .string ⟨p.prog.toArray⟩, .slice s.A s.an s.ac, .slice s.E s.en s.ec, .slice s.F s.fn s.fc, .bool p.done, .int .i64 p.status, .int .i64 p.phase, .int .i64 p.count, .slice s.D s.dn s.dc]] w fun e w' => ∃ D dn dc, e = .returned (.agg #[.int .i64 a.kind, .int .i64 a.fd, .int .i64 a.n, .slice D dn dc, .int .i64 a.status]) ∧ Reads w' w'.heap.size 1 D dn (bv a.data) ∧ dn ≤ dc ∧ Below w.heap.size w w' := by
  have := next_any p s w hI (hI.lens hf) hf ((hS.keep hb).more hb.size) hj ht
  rw [hN] at this
  exact this
theorem afterL {p q : PR} {n : Nat} {d : Bs} (hA : afterP p n d = q) (hf : FitP p) (hj : (Lib.join p.args.tail [32]).length ≤ 400000) (ht : toldB p.prog) (hy : p.prog ≠ nYes) (hn : n ≤ 1000000) (s : PS) (E : Option Addr) (en ec : Nat) (hen : en ≤ 400000) (w w0 : World) (hE : Reads w w.heap.size 1 E en (bv d)) (hI : InP w w.heap.size p s) (hS : StB w0.heap.size w0) (hb : Below w0.heap.size w0 w) :
    Calls Tryz.prog 21 #[.agg #[Value.int .i64 p.pid, .string ⟨p.prog.toArray⟩, .slice s.A s.an s.ac, .slice s.E s.en s.ec, .slice s.F s.fn s.fc, .bool p.done, .int .i64 p.status, .int .i64 p.phase, .int .i64 p.count, .slice s.D s.dn s.dc], .int .i64 0, .int .i64 (n : Int), .slice E en ec] w fun e w' => ∃ z, e = .returned (.agg #[Value.int .i64 q.pid, .string ⟨q.prog.toArray⟩, .slice z.A z.an z.ac, .slice z.E z.en z.ec, .slice z.F z.fn z.fc, .bool q.done, .int .i64 q.status, .int .i64 q.phase, .int .i64 q.count, .slice z.D z.dn z.dc]) ∧ InP w' w'.heap.size q z ∧ Below w.heap.size w w' := by
  have := after_any p s n E en ec d w hI (hI.lens hf) hf ((hS.keep hb).more hb.size) hj ht hE hen hn hy
  rw [hA] at this
  refine this.mono ?_
  rintro e w' ⟨z, rfl, ho, hb⟩
  exact ⟨z, rfl, ho.in_, hb⟩
end Go.Proofs.YtlkccboongnneaaGreatDoor
