/- join: bytes behind others, in memory of their own. -/
import Derived.Test.YthoaocjeladbkaaDiskA
namespace Go.Proofs.Ythoaocjeladbkaa
open Go.RowKit
set_option linter.unusedVariables false

set_option maxHeartbeats 1000000 in
theorem rjoin_any (A : Option Addr) (n c : Nat) (B : Option Addr) (m k : Nat) (a b : List UInt8) (w : World) (ha : Rd w A n a) (hb : Rd w B m b) (hn : n ≤ 10000000) (hm : m ≤ 10000000) :
    Calls Try.prog 28 #[.slice A n c, .slice B m k] w fun e w' => ∃ J l, e = .returned (.slice J (n + m) l) ∧ w'.ownsRow w.heap.size 5 1 (.slice J (n + m) l) (n + m) (bv (a ++ b)) ∧ Below w.heap.size w w' := by
  obtain ⟨i0, hi, hz0, hz1, hz2⟩ := info_parts infoU8
  have hown0 : (w.alloc (.cells #[] 5)).ownsRow w.heap.size 5 1 (.slice (some ⟨w.heap.size, 0, none⟩) 0 0) 0 [] :=
    Blk.own (cap := 0) (Blk.new w 5 #[]) (Nat.le_refl _) (Nat.zero_le _) rfl
  have hb0 := hide ((Below.refl w.heap.size w).alloc (Nat.le_refl _) (.cells #[] 5))
  have hr0 := ha.alloc (Nat.le_refl _) (.cells #[] 5)
  have hr1 := hb.alloc (Nat.le_refl _) (.cells #[] 5)
  go_enter Try.func28, Try.ntmps28
  go_wp2_with (at_builtin; (refine wpList_append_any _ rfl (.tmp 5) (.tmp 6) 22 rfl w.heap.size 5 i0 _ 1 1 Try.underlying22 hi hz0 hz1 hz2 rfl (by omega) (.slice (some ⟨w.heap.size, 0, none⟩) 0 0) 0 [] rfl hown0 w.heap.size A n c (bv a) rfl hr0 (bv_one a) ?c1 ?c2 ?c3 ?_))
  case c1 => unfold maxLen; omega
  case c2 => omega
  case c3 => simp
  intro v1 w1 hown1 hg1 hat1
  obtain ⟨J1, l1, rfl⟩ := own_slice hown1
  try rw [Nat.zero_add] at hown1
  try rw [List.nil_append] at hown1
  have hb1 := hide (hb0.out.grown hg1 (by simp) (fun g hg => by simp [Value.ownBlock] at hg; omega))
  have hr2 := hr1.grown hg1 (by simp) (fun g hg => by simp [Value.ownBlock] at hg; omega)
  clear hg1 hat1
  have hz := hb1.out.size
  go_wp2_with (at_builtin; (refine wpList_append_any _ rfl (.tmp 7) (.tmp 8) 22 rfl w.heap.size 5 i0 _ 1 1 Try.underlying22 hi hz0 hz1 hz2 rfl (by omega) (.slice J1 n l1) n (bv a) rfl hown1 w.heap.size B m k (bv b) rfl hr2 (bv_one b) ?d1 ?d2 ?d3 ?_))
  case d1 => unfold maxLen; omega
  case d2 => omega
  case d3 => omega
  intro v2 w2 hown2 hg2 hat2
  obtain ⟨J, l, rfl⟩ := own_slice hown2
  rw [← bv_append] at hown2
  have hb2 := hide (hb1.out.grown hg2 (by omega) (fun g hg => (hown1.lt g hg).1))
  have HO := hide hown2
  clear hg2 hat2 hown2
  go_wp2
  go_ret
  exact ⟨J, l, rfl, HO.out, hb2.out⟩
end Go.Proofs.Ythoaocjeladbkaa
