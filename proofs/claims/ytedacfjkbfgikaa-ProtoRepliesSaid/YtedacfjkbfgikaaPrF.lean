/- proto.Encode. -/
import Derived.Test.YtedacfjkbfgikaaPrD
import Derived.Test.YtedacfjkbfgikaaMem
import Derived.Deep.DeepCutAuto
namespace Go.Proofs.Ytedacfjkbfgikaa
open Go.RowKit
set_option linter.unusedVariables false
theorem catP_bound {α : Type} (e : α → LB) (m : Nat) : ∀ (l : List α), (∀ x ∈ l, (e x).length ≤ m) → (catP (l.map e)).length ≤ l.length * m
  | [], _ => by simp [catP]
  | x :: l, h => by
    have h1 := catP_bound e m l (fun y hy => h y (List.mem_cons_of_mem _ hy))
    have h2 := h x (List.mem_cons_self ..)
    rw [List.map_cons, catP, List.length_append, List.length_cons, Nat.add_mul, Nat.one_mul]
    omega
theorem catP_len (l : List LB) (m : Nat) (h : ∀ x ∈ l, x.length ≤ m) : (catP l).length ≤ l.length * m := by
  have := catP_bound (fun x : LB => x) m l h
  rwa [List.map_id'] at this
theorem catP_next (l : List LB) (k : Nat) (x : LB) (hx : l[k]? = some x) : catP (l.take (k + 1)) = catP (l.take k) ++ x := by
  have := catP_take (fun x : LB => x) l k x hx
  simpa using this
theorem on_len {u k : Int} {b : LB} {m : Nat} (h : b.length ≤ m) : (on u k b []).length ≤ m := by
  unfold on; split
  · simp
  · exact h
/-- What a valid request's fields keep within. -/
def RQ.small (r : RQ) : Prop := i64ok r.op ∧ i64ok r.h ∧ i64ok r.n ∧ i64ok r.fl ∧ r.p.length ≤ 256 ∧ r.p2.length ≤ 256 ∧ r.d.length ≤ 2048 ∧ (r.args.length ≤ 16 ∧ ∀ x ∈ r.args, x.length ≤ 256) ∧ (r.env.length ≤ 32 ∧ ∀ x ∈ r.env, x.length ≤ 256) ∧ (r.fds.length ≤ 3 ∧ ∀ x ∈ r.fds, i64ok x)
theorem RQ.small.args {r : RQ} (h : r.small) : (catP (r.args.map txtP)).length ≤ 4200 := by
  have := catP_bound txtP 258 r.args (fun x hx => by rw [txt_len]; have := h.2.2.2.2.2.2.2.1.2 x hx; omega)
  have h2 := h.2.2.2.2.2.2.2.1.1
  omega
theorem RQ.small.env {r : RQ} (h : r.small) : (catP (r.env.map txtP)).length ≤ 8300 := by
  have := catP_bound txtP 258 r.env (fun x hx => by rw [txt_len]; have := h.2.2.2.2.2.2.2.2.1.2 x hx; omega)
  have h2 := h.2.2.2.2.2.2.2.2.1.1
  omega
theorem RQ.small.fds {r : RQ} (h : r.small) : (catP (r.fds.map intP)).length ≤ 100 := by
  have := catP_bound intP 4 r.fds (fun x hx => by rw [int_len]; omega)
  have h2 := h.2.2.2.2.2.2.2.2.2.1
  omega
theorem RQ.small.pieces {r : RQ} (h : r.small) (u : Int) : ∀ x ∈ encS u r, x.length ≤ 9000 := by
  obtain ⟨s0, s1, s2, s3, s4, s5, s6, s7, s8, s9⟩ := id h
  have ha := h.args
  have he := h.env
  have hf := h.fds
  intro x hx
  simp only [encS, List.mem_cons, List.mem_nil_iff, or_false] at hx
  rcases hx with rfl | rfl | rfl | rfl | rfl | rfl | rfl | rfl | rfl
  · exact on_len (by rw [int_len]; omega)
  · exact on_len (by rw [txt_len]; omega)
  · exact on_len (by rw [txt_len]; omega)
  · exact on_len (by simp only [lstP, List.length_append, be_length]; omega)
  · exact on_len (by simp only [lstP, List.length_append, be_length]; omega)
  · exact on_len (by simp only [numsP, List.length_append, be_length]; omega)
  · exact on_len (by rw [int_len]; omega)
  · exact on_len (by rw [int_len]; omega)
  · exact on_len (by rw [txt_len]; omega)
theorem RQ.small.sofar {r : RQ} (h : r.small) (u : Int) (o : LB) (ho : o.length ≤ 1) (k : Nat) : (o ++ catP ((encS u r).take k)).length ≤ 90000 := by
  have h1 := catP_len ((encS u r).take k) 9000 (fun x hx => h.pieces u x (List.mem_of_mem_take hx))
  have h2 : ((encS u r).take k).length ≤ 9 := by rw [List.length_take, show (encS u r).length = 9 from rfl]; omega
  rw [List.length_append]
  omega
def capsQ (g gr : Nat) : Array Value := #[.pointer (some ⟨g, 0, none⟩), .pointer (some ⟨gr, 0, none⟩)]
def fvsQ (g gr : Nat) : List FV := [⟨2, 27, capsQ g gr⟩, ⟨8, 30, capsQ g gr⟩, ⟨16, 32, capsQ g gr⟩, ⟨32, 33, capsQ g gr⟩, ⟨64, 35, capsQ g gr⟩, ⟨128, 36, capsQ g gr⟩, ⟨256, 38, capsQ g gr⟩, ⟨512, 39, capsQ g gr⟩, ⟨1024, 40, capsQ g gr⟩]
def rowQ (g gr : Nat) : Array Value := #[.int .i64 2, .func (.func 27) #[] (capsQ g gr), .int .i64 8, .func (.func 30) #[] (capsQ g gr), .int .i64 16, .func (.func 32) #[] (capsQ g gr), .int .i64 32, .func (.func 33) #[] (capsQ g gr), .int .i64 64, .func (.func 35) #[] (capsQ g gr), .int .i64 128, .func (.func 36) #[] (capsQ g gr), .int .i64 256, .func (.func 38) #[] (capsQ g gr), .int .i64 512, .func (.func 39) #[] (capsQ g gr), .int .i64 1024, .func (.func 40) #[] (capsQ g gr)]
theorem rowQ_eq (g gr : Nat) : fcs (fvsQ g gr) = (rowQ g gr).toList := rfl
theorem row_reads {W : World} {gf : Nat} {cs : Array Value} {t : TypeId} (h : Blk W gf t cs) (n : Nat) (hn : cs.toList.length = n * 2) : Reads W W.heap.size 2 (some ⟨gf, 0, none⟩) n cs.toList := by
  refine ⟨by omega, fun _ => ⟨_, rfl, h.lt, ?_⟩⟩
  intro j u hu
  rw [at_add, Nat.zero_add, h.cell j]
  simpa using hu
theorem enq27 (g gr : Nat) (W : World) : (callFunc 27 (capsQ g gr)).run Try.prog W = .ok (.enter 27 (capsQ g gr)) W := fn_enter Try.func27 (by kernel_rfl) rfl (capsQ g gr) W
theorem enq30 (g gr : Nat) (W : World) : (callFunc 30 (capsQ g gr)).run Try.prog W = .ok (.enter 30 (capsQ g gr)) W := fn_enter Try.func30 (by kernel_rfl) rfl (capsQ g gr) W
theorem enq32 (g gr : Nat) (W : World) : (callFunc 32 (capsQ g gr)).run Try.prog W = .ok (.enter 32 (capsQ g gr)) W := fn_enter Try.func32 (by kernel_rfl) rfl (capsQ g gr) W
theorem enq33 (g gr : Nat) (W : World) : (callFunc 33 (capsQ g gr)).run Try.prog W = .ok (.enter 33 (capsQ g gr)) W := fn_enter Try.func33 (by kernel_rfl) rfl (capsQ g gr) W
theorem enq35 (g gr : Nat) (W : World) : (callFunc 35 (capsQ g gr)).run Try.prog W = .ok (.enter 35 (capsQ g gr)) W := fn_enter Try.func35 (by kernel_rfl) rfl (capsQ g gr) W
theorem enq36 (g gr : Nat) (W : World) : (callFunc 36 (capsQ g gr)).run Try.prog W = .ok (.enter 36 (capsQ g gr)) W := fn_enter Try.func36 (by kernel_rfl) rfl (capsQ g gr) W
theorem enq38 (g gr : Nat) (W : World) : (callFunc 38 (capsQ g gr)).run Try.prog W = .ok (.enter 38 (capsQ g gr)) W := fn_enter Try.func38 (by kernel_rfl) rfl (capsQ g gr) W
theorem enq39 (g gr : Nat) (W : World) : (callFunc 39 (capsQ g gr)).run Try.prog W = .ok (.enter 39 (capsQ g gr)) W := fn_enter Try.func39 (by kernel_rfl) rfl (capsQ g gr) W
theorem enq40 (g gr : Nat) (W : World) : (callFunc 40 (capsQ g gr)).run Try.prog W = .ok (.enter 40 (capsQ g gr)) W := fn_enter Try.func40 (by kernel_rfl) rfl (capsQ g gr) W
def bitsQ : List Int := [2, 8, 16, 32, 64, 128, 256, 512, 1024]
theorem bit_at (g gr k : Nat) (hk : k < (fvsQ g gr).length) : (fvsQ g gr)[k].which = bitsQ.getD k 0 := by
  have h9 : k < 9 := hk
  rcases (show k = 0 ∨ k = 1 ∨ k = 2 ∨ k = 3 ∨ k = 4 ∨ k = 5 ∨ k = 6 ∨ k = 7 ∨ k = 8 by omega) with rfl | rfl | rfl | rfl | rfl | rfl | rfl | rfl | rfl <;> rfl
theorem noQ (u : Int) (r : RQ) (k : Nat) (hk : k < 9) (HB : Hid (bits .and .i64 u (bitsQ.getD k 0) = 0)) : catP ((encS u r).take (k + 1)) = catP ((encS u r).take k) := by
  rcases (show k = 0 ∨ k = 1 ∨ k = 2 ∨ k = 3 ∨ k = 4 ∨ k = 5 ∨ k = 6 ∨ k = 7 ∨ k = 8 by omega) with rfl | rfl | rfl | rfl | rfl | rfl | rfl | rfl | rfl
  · rw [catP_next (encS u r) 0 (on u 2 _ []) rfl, on_no (u := u) (k := 2) HB.out, List.append_nil]
  · rw [catP_next (encS u r) 1 (on u 8 _ []) rfl, on_no (u := u) (k := 8) HB.out, List.append_nil]
  · rw [catP_next (encS u r) 2 (on u 16 _ []) rfl, on_no (u := u) (k := 16) HB.out, List.append_nil]
  · rw [catP_next (encS u r) 3 (on u 32 _ []) rfl, on_no (u := u) (k := 32) HB.out, List.append_nil]
  · rw [catP_next (encS u r) 4 (on u 64 _ []) rfl, on_no (u := u) (k := 64) HB.out, List.append_nil]
  · rw [catP_next (encS u r) 5 (on u 128 _ []) rfl, on_no (u := u) (k := 128) HB.out, List.append_nil]
  · rw [catP_next (encS u r) 6 (on u 256 _ []) rfl, on_no (u := u) (k := 256) HB.out, List.append_nil]
  · rw [catP_next (encS u r) 7 (on u 512 _ []) rfl, on_no (u := u) (k := 512) HB.out, List.append_nil]
  · rw [catP_next (encS u r) 8 (on u 1024 _ []) rfl, on_no (u := u) (k := 1024) HB.out, List.append_nil]
theorem eachQ_any (gf : Nat) (w0 : World) (B g gr : Nat) (r : RQ) (u : Int) (o : LB) (ho : o.length ≤ 1) (hs : r.small) (w : World) (h : WI gf (rowQ g gr) w0 B g gr r o w) :
    Calls Try.prog 25 #[.int .i64 u, .slice (some ⟨gf, 0, none⟩) 9 9] w fun e w' => e = .returned (.tuple #[]) ∧ WI gf (rowQ g gr) w0 B g gr r (o ++ catP (encS u r)) w' := by
  have hb : ∀ k, (o ++ catP ((encS u r).take k)).length ≤ 500000 := fun k => by have := hs.sofar u o ho k; omega
  have X := each_any u (fvsQ g gr) (some ⟨gf, 0, none⟩) 9 9 w (fun k W => WI gf (rowQ g gr) w0 B g gr r (o ++ catP ((encS u r).take k)) W) (by omega) rfl
    (fun k W hW => by rw [rowQ_eq]; exact row_reads hW.2.2.2.2.2 9 rfl)
    (by simpa [catP] using h)
    (fun k W o' hW => hW.below ((Below.refl _ _).alloc (Nat.le_refl _) _))
    (fun k x hx hbit W hW => ?_)
    (fun x hx W => ?_)
    (fun k x hx hbit W hW => ?_)
  · refine X.mono fun e w' ⟨he, hw⟩ => ⟨he, ?_⟩
    rwa [List.take_of_length_le (by exact Nat.le_refl 9)] at hw
  · obtain ⟨hk, rfl⟩ := List.getElem?_eq_some_iff.1 hx
    match k, hk with
    | 0, _ =>
      refine (wr1_any gf (rowQ g gr) w0 B g gr r _ W hW (hb 0) hs.2.1.1 hs.2.1.2).mono fun e w' ⟨he, hw⟩ => ⟨he, ?_⟩
      rw [catP_next (encS u r) 0 (on u 2 _ []) rfl, on_yes (u := u) (k := 2) hbit, ← List.append_assoc]
      exact hw
    | 1, _ =>
      refine (wr2_any gf (rowQ g gr) w0 B g gr r _ W hW (hb 1) (by have := hs.2.2.2.2.1; omega)).mono fun e w' ⟨he, hw⟩ => ⟨he, ?_⟩
      rw [catP_next (encS u r) 1 (on u 8 _ []) rfl, on_yes (u := u) (k := 8) hbit, ← List.append_assoc]
      exact hw
    | 2, _ =>
      refine (wr3_any gf (rowQ g gr) w0 B g gr r _ W hW (hb 2) (by have := hs.2.2.2.2.2.1; omega)).mono fun e w' ⟨he, hw⟩ => ⟨he, ?_⟩
      rw [catP_next (encS u r) 2 (on u 16 _ []) rfl, on_yes (u := u) (k := 16) hbit, ← List.append_assoc]
      exact hw
    | 3, _ =>
      refine (wr4_any gf (rowQ g gr) w0 B g gr r _ W hW (hb 3) (by have := hs.2.2.2.2.2.2.2.1.1; omega) (by have := hs.args; omega)).mono fun e w' ⟨he, hw⟩ => ⟨he, ?_⟩
      rw [catP_next (encS u r) 3 (on u 32 _ []) rfl, on_yes (u := u) (k := 32) hbit, ← List.append_assoc]
      exact hw
    | 4, _ =>
      refine (wr5_any gf (rowQ g gr) w0 B g gr r _ W hW (hb 4) (by have := hs.2.2.2.2.2.2.2.2.1.1; omega) (by have := hs.env; omega)).mono fun e w' ⟨he, hw⟩ => ⟨he, ?_⟩
      rw [catP_next (encS u r) 4 (on u 64 _ []) rfl, on_yes (u := u) (k := 64) hbit, ← List.append_assoc]
      exact hw
    | 5, _ =>
      refine (wr6_any gf (rowQ g gr) w0 B g gr r _ W hW (hb 5) (by have := hs.2.2.2.2.2.2.2.2.2.1; omega) (by have := hs.fds; omega) (fun x hx => hs.2.2.2.2.2.2.2.2.2.2 x hx)).mono fun e w' ⟨he, hw⟩ => ⟨he, ?_⟩
      rw [catP_next (encS u r) 5 (on u 128 _ []) rfl, on_yes (u := u) (k := 128) hbit, ← List.append_assoc]
      exact hw
    | 6, _ =>
      refine (wr7_any gf (rowQ g gr) w0 B g gr r _ W hW (hb 6) hs.2.2.2.1.1 hs.2.2.2.1.2).mono fun e w' ⟨he, hw⟩ => ⟨he, ?_⟩
      rw [catP_next (encS u r) 6 (on u 256 _ []) rfl, on_yes (u := u) (k := 256) hbit, ← List.append_assoc]
      exact hw
    | 7, _ =>
      refine (wr8_any gf (rowQ g gr) w0 B g gr r _ W hW (hb 7) hs.2.2.1.1 hs.2.2.1.2).mono fun e w' ⟨he, hw⟩ => ⟨he, ?_⟩
      rw [catP_next (encS u r) 7 (on u 512 _ []) rfl, on_yes (u := u) (k := 512) hbit, ← List.append_assoc]
      exact hw
    | 8, _ =>
      refine (wr9_any gf (rowQ g gr) w0 B g gr r _ W hW (hb 8) (by have := hs.2.2.2.2.2.2.1; omega)).mono fun e w' ⟨he, hw⟩ => ⟨he, ?_⟩
      rw [catP_next (encS u r) 8 (on u 1024 _ []) rfl, on_yes (u := u) (k := 1024) hbit, ← List.append_assoc]
      exact hw
  · simp only [fvsQ, List.mem_cons, List.mem_nil_iff, or_false] at hx
    rcases hx with rfl | rfl | rfl | rfl | rfl | rfl | rfl | rfl | rfl
    · exact enq27 g gr W
    · exact enq30 g gr W
    · exact enq32 g gr W
    · exact enq33 g gr W
    · exact enq35 g gr W
    · exact enq36 g gr W
    · exact enq38 g gr W
    · exact enq39 g gr W
    · exact enq40 g gr W
  · obtain ⟨hk, rfl⟩ := List.getElem?_eq_some_iff.1 hx
    have HB : Hid (bits .and .i64 u (bitsQ.getD k 0) = 0) := hide (by rw [← bit_at g gr k hk]; exact hbit)
    clear hbit hx hb
    rw [noQ u r k hk HB]
    exact hW
end Go.Proofs.Ytedacfjkbfgikaa
