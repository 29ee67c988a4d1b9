/- proto.each over the nine readers. -/
import Derived.Test.YtedacfjkbfgikaaPrH
namespace Go.Proofs.Ytedacfjkbfgikaa
open Go.RowKit
set_option linter.unusedVariables false
def fvsD (gi gr : Nat) : List FV := [⟨2, 43, capsQ gi gr⟩, ⟨8, 45, capsQ gi gr⟩, ⟨16, 47, capsQ gi gr⟩, ⟨32, 48, capsQ gi gr⟩, ⟨64, 50, capsQ gi gr⟩, ⟨128, 51, capsQ gi gr⟩, ⟨256, 53, capsQ gi gr⟩, ⟨512, 54, capsQ gi gr⟩, ⟨1024, 55, capsQ gi gr⟩]
def rowD (gi gr : Nat) : Array Value := #[.int .i64 2, .func (.func 43) #[] (capsQ gi gr), .int .i64 8, .func (.func 45) #[] (capsQ gi gr), .int .i64 16, .func (.func 47) #[] (capsQ gi gr), .int .i64 32, .func (.func 48) #[] (capsQ gi gr), .int .i64 64, .func (.func 50) #[] (capsQ gi gr), .int .i64 128, .func (.func 51) #[] (capsQ gi gr), .int .i64 256, .func (.func 53) #[] (capsQ gi gr), .int .i64 512, .func (.func 54) #[] (capsQ gi gr), .int .i64 1024, .func (.func 55) #[] (capsQ gi gr)]
theorem rowD_eq (gi gr : Nat) : fcs (fvsD gi gr) = (rowD gi gr).toList := rfl
theorem bit_atD (g gr k : Nat) (hk : k < (fvsD g gr).length) : (fvsD g gr)[k].which = bitsQ.getD k 0 := by
  have h9 : k < 9 := hk
  rcases (show k = 0 ∨ k = 1 ∨ k = 2 ∨ k = 3 ∨ k = 4 ∨ k = 5 ∨ k = 6 ∨ k = 7 ∨ k = 8 by omega) with rfl | rfl | rfl | rfl | rfl | rfl | rfl | rfl | rfl <;> rfl
theorem fldQ_bit (k : Nat) : (fldQ.getD k (0, id)).1 = bitsQ.getD k 0 := by
  match k with
  | 0 | 1 | 2 | 3 | 4 | 5 | 6 | 7 | 8 => rfl
  | k + 9 => rfl
theorem noD (u : Int) (q : RQ × St) (k : Nat) (HB : bits .and .i64 u (bitsQ.getD k 0) = 0) : dcQ u q (k + 1) = dcQ u q k := by
  rw [dcQ, fldQ_bit, on_no HB]
theorem yesD (u : Int) (q : RQ × St) (k : Nat) (HB : ¬ bits .and .i64 u (bitsQ.getD k 0) = 0) : dcQ u q (k + 1) = (fldQ.getD k (0, id)).2 (dcQ u q k) := by
  rw [dcQ, fldQ_bit, on_yes HB]
theorem RD.alloc {gf : Nat} {cs : Array Value} {w0 : World} {b B g gi gr : Nat} {q : RQ × St} {w : World} (h : RD gf cs w0 b B g gi gr q w) (o : Obj) : RD gf cs w0 b B g gi gr q (w.alloc o) :=
  h.fr (h.1.keep (fun x hx => Below.heap_alloc w o x (by have := h.1.lt; omega)) (by simp)) (Fr.of_below ((Below.refl _ w).alloc (Nat.le_refl _) o)) h.bw
theorem end43 (g gr : Nat) (W : World) : (callFunc 43 (capsQ g gr)).run Try.prog W = .ok (.enter 43 (capsQ g gr)) W := fn_enter Try.func43 (by kernel_rfl) rfl (capsQ g gr) W
theorem end45 (g gr : Nat) (W : World) : (callFunc 45 (capsQ g gr)).run Try.prog W = .ok (.enter 45 (capsQ g gr)) W := fn_enter Try.func45 (by kernel_rfl) rfl (capsQ g gr) W
theorem end47 (g gr : Nat) (W : World) : (callFunc 47 (capsQ g gr)).run Try.prog W = .ok (.enter 47 (capsQ g gr)) W := fn_enter Try.func47 (by kernel_rfl) rfl (capsQ g gr) W
theorem end48 (g gr : Nat) (W : World) : (callFunc 48 (capsQ g gr)).run Try.prog W = .ok (.enter 48 (capsQ g gr)) W := fn_enter Try.func48 (by kernel_rfl) rfl (capsQ g gr) W
theorem end50 (g gr : Nat) (W : World) : (callFunc 50 (capsQ g gr)).run Try.prog W = .ok (.enter 50 (capsQ g gr)) W := fn_enter Try.func50 (by kernel_rfl) rfl (capsQ g gr) W
theorem end51 (g gr : Nat) (W : World) : (callFunc 51 (capsQ g gr)).run Try.prog W = .ok (.enter 51 (capsQ g gr)) W := fn_enter Try.func51 (by kernel_rfl) rfl (capsQ g gr) W
theorem end53 (g gr : Nat) (W : World) : (callFunc 53 (capsQ g gr)).run Try.prog W = .ok (.enter 53 (capsQ g gr)) W := fn_enter Try.func53 (by kernel_rfl) rfl (capsQ g gr) W
theorem end54 (g gr : Nat) (W : World) : (callFunc 54 (capsQ g gr)).run Try.prog W = .ok (.enter 54 (capsQ g gr)) W := fn_enter Try.func54 (by kernel_rfl) rfl (capsQ g gr) W
theorem end55 (g gr : Nat) (W : World) : (callFunc 55 (capsQ g gr)).run Try.prog W = .ok (.enter 55 (capsQ g gr)) W := fn_enter Try.func55 (by kernel_rfl) rfl (capsQ g gr) W
theorem eachD_any (gf : Nat) (w0 : World) (b B g gi gr : Nat) (u : Int) (q : RQ × St) (w : World) (h : RD gf (rowD gi gr) w0 b B g gi gr q w) :
    Calls Try.prog 25 #[.int .i64 u, .slice (some ⟨gf, 0, none⟩) 9 9] w fun e w' => e = .returned (.tuple #[]) ∧ RD gf (rowD gi gr) w0 b B g gi gr (dcQ u q 9) w' := by
  refine each_any u (fvsD gi gr) (some ⟨gf, 0, none⟩) 9 9 w (fun k W => RD gf (rowD gi gr) w0 b B g gi gr (dcQ u q k) W) (by omega) rfl
    (fun k W hW => by rw [rowD_eq]; exact row_reads hW.2.2.2.2.2.2.2.2 9 rfl)
    h
    (fun k W o' hW => hW.alloc o')
    (fun k x hx hbit W hW => ?_)
    (fun x hx W => ?_)
    (fun k x hx hbit W hW => ?_)
  · obtain ⟨hk, rfl⟩ := List.getElem?_eq_some_iff.1 hx
    have HB : Hid (¬ bits .and .i64 u (bitsQ.getD k 0) = 0) := hide (by rw [← bit_atD gi gr k hk]; exact hbit)
    clear hbit hx
    rw [yesD u q k HB.out]
    have h9 : k < 9 := hk
    clear HB
    generalize dcQ u q k = p at *
    obtain ⟨r, st⟩ := p
    rcases (show k = 0 ∨ k = 1 ∨ k = 2 ∨ k = 3 ∨ k = 4 ∨ k = 5 ∨ k = 6 ∨ k = 7 ∨ k = 8 by omega) with rfl | rfl | rfl | rfl | rfl | rfl | rfl | rfl | rfl
    · exact rd1_any gf (rowD gi gr) w0 b B g gi gr r st W hW
    · exact rd2_any gf (rowD gi gr) w0 b B g gi gr r st W hW
    · exact rd3_any gf (rowD gi gr) w0 b B g gi gr r st W hW
    · exact rd4_any gf (rowD gi gr) w0 b B g gi gr r st W hW
    · exact rd5_any gf (rowD gi gr) w0 b B g gi gr r st W hW
    · exact rd6_any gf (rowD gi gr) w0 b B g gi gr r st W hW
    · exact rd7_any gf (rowD gi gr) w0 b B g gi gr r st W hW
    · exact rd8_any gf (rowD gi gr) w0 b B g gi gr r st W hW
    · exact rd9_any gf (rowD gi gr) w0 b B g gi gr r st W hW
  · simp only [fvsD, List.mem_cons, List.mem_nil_iff, or_false] at hx
    rcases hx with rfl | rfl | rfl | rfl | rfl | rfl | rfl | rfl | rfl
    · exact end43 gi gr W
    · exact end45 gi gr W
    · exact end47 gi gr W
    · exact end48 gi gr W
    · exact end50 gi gr W
    · exact end51 gi gr W
    · exact end53 gi gr W
    · exact end54 gi gr W
    · exact end55 gi gr W
  · obtain ⟨hk, rfl⟩ := List.getElem?_eq_some_iff.1 hx
    have HB : Hid (bits .and .i64 u (bitsQ.getD k 0) = 0) := hide (by rw [← bit_atD gi gr k hk]; exact hbit)
    clear hbit hx
    rw [noD u q k HB.out]
    exact hW
end Go.Proofs.Ytedacfjkbfgikaa
