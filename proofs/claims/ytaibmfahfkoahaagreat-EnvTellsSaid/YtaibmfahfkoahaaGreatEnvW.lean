/- The contracts of slices.SortFunc at settings, of env.Set and env.Unset. -/
import Derived.Test.YtaibmfahfkoahaaGreatEnvW0
import Derived.Test.YtaibmfahfkoahaaGreatSortF
namespace Go.Proofs.YtaibmfahfkoahaaGreat
open Go.RowKit
set_option linter.unusedVariables false
theorem two_grow (w : World) (a b : Obj) : (w.alloc a).alloc b = Sort.grow (w.drewN 0) #[a, b] := by
  rw [Sort.alloc_eq_grow, Sort.alloc_eq_grow, Sort.grow_grow]; rfl
set_option maxHeartbeats 2000000 in
theorem setcmp_any (x y : St) (w : World) : Calls Tryz.prog 27 #[x.v, y.v] w fun e w' => e = .returned (.int .i64 (cfS x y)) ∧ ∃ q os', w' = Sort.grow (w.drewN q) os' := by
  obtain ⟨a, b⟩ := x
  obtain ⟨c, d⟩ := y
  unfold St.v cfS
  dsimp only
  have X : Hid (∀ W, Calls Tryz.prog 28 #[.string ⟨a.toArray⟩, .string ⟨c.toArray⟩] W fun e w' => e = .returned (.int .i64 (Lib.compareBytes a c)) ∧ W = w') := hide (fun W => (Any.strings_Compare Tryz.lays106 ⟨a.toArray⟩ ⟨c.toArray⟩ W).mono (fun _ _ h => ⟨h.1, h.2.symm⟩))
  generalize Lib.compareBytes a c = r at *
  go_enter Tryz.func27, Tryz.ntmps27
  go_wp2_with fail
  refine (X.out _).mono ?_
  rintro e w1 ⟨rfl, rfl⟩
  go_wp2_with fail
  go_ret
  exact ⟨rfl, 0, _, two_grow _ _ _⟩
theorem sort_any {B : Nat} (T : List St) (A : Option Addr) (n c : Nat) (w : World) (hO : OwS B w A n c T) (h0 : 0 < n) (hn : n ≤ 100000) (hB : B ≤ w.heap.size) : Calls Tryz.prog 26 #[.slice A n c, .func (.func 27) #[] #[]] w fun e w' => e = .returned (.tuple #[]) ∧ ∃ d', Sort.PermIn 0 T.toArray.size T.toArray d' ∧ Sort.SortedIn (ltOf cfS) 0 T.toArray.size d' ∧ RdS w' A n d'.toList ∧ Below B w w' := by
  obtain ⟨g, rfl, hg, hgl, hH⟩ := holds_own hO h0
  have hl := hO.rd.len
  have hs : T.toArray.size = n := by simpa using hl
  have X := AnyQ.slices_SortFunc Tryz.sortS 2 Tryz.isAgg46 Tryz.sizeOf46 ss2 ss2_len ss2_one cfS swoS 27 #[] g 0 c T.toArray w (enters_of Tryz.func27 (by kernel_rfl) rfl) (fun m os dk hd x y => setcmp_any x y _) hH hgl (by omega)
  rw [hs] at X ⊢
  refine X.mono ?_
  rintro e w' ⟨he, d', k, os, h1, h2, rfl⟩
  have hd : d'.size = T.toArray.size := by rw [hs]; exact h1.1.trans hs
  refine ⟨he, d', h1, h2, rd_holds (holdsK_sortWorldK_c ss2 2 w g 0 T.toArray d' k os hH hgl hd) ?_ (hd.trans hs), below_sort hg hB⟩
  exact Nat.lt_of_lt_of_le hgl (size_sortWorldK_c ss2 2 w g 0 k d' os)
end Go.Proofs.YtaibmfahfkoahaaGreat
