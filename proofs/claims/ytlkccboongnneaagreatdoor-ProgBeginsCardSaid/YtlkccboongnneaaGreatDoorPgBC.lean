/- The document's Begin. -/
import Derived.Test.YtlkccboongnneaaGreatDoorPgBA
namespace Go.Proofs.YtlkccboongnneaaGreatDoor
open Go.RowKit
set_option linter.unusedVariables false
theorem fresh_own (w : World) (t : TypeId) : (w.alloc (.cells #[] t)).ownsRow w.heap.size t 1 (.slice (some ⟨w.heap.size, 0, none⟩) 0 0) 0 [] :=
  ⟨rfl, .inr ⟨w.heap.size, 0, #[], rfl, Nat.le_refl _, Blk.new w t #[], Nat.le_refl _, by simp [maxLen], by simp, by simp⟩⟩
set_option maxRecDepth 100000 in
set_option maxHeartbeats 8000000 in
theorem rbegin_any (pid : Int) (prog : Bs) (args env : List Bs) (fds : List Int) (A : Option Addr) (an ac : Nat) (E : Option Addr) (en ec : Nat) (F : Option Addr) (fn fc : Nat) (w : World)
    (h1 : Reads w w.heap.size 1 A an (svs args)) (h2 : Reads w w.heap.size 1 E en (svs env)) (h3 : Reads w w.heap.size 1 F fn (ivs fds)) (hn : an ≤ 1000000 ∧ en ≤ 1000000 ∧ fn ≤ 1000000) :
    Calls Tryz.prog 14 #[.int .i64 pid, .string ⟨prog.toArray⟩, .slice A an ac, .slice E en ec, .slice F fn fc] w fun e w' => ∃ s, e = .returned (.agg #[Value.int .i64 (bornP pid prog args env fds).pid, .string ⟨(bornP pid prog args env fds).prog.toArray⟩, .slice s.A s.an s.ac, .slice s.E s.en s.ec, .slice s.F s.fn s.fc, .bool (bornP pid prog args env fds).done, .int .i64 (bornP pid prog args env fds).status, .int .i64 (bornP pid prog args env fds).phase, .int .i64 (bornP pid prog args env fds).count, .slice s.D s.dn s.dc]) ∧ InP w' w'.heap.size (bornP pid prog args env fds) s ∧ Below w.heap.size w w' := by
  obtain ⟨i0, hi, hz0, hz1, hz2⟩ := info_parts infoStr
  obtain ⟨i1, hj, hy0, hy1, hy2⟩ := info_parts infoInt
  obtain ⟨n1, n2, n3⟩ := hn
  have hA1 : Blk (w.alloc (.cells #[Value.int .i64 0, .string ⟨#[]⟩, .slice none 0 0, .slice none 0 0, .slice none 0 0, .bool false, .int .i64 0, .int .i64 0, .int .i64 0, .slice none 0 0] 26)) w.heap.size 26 #[Value.int .i64 0, .string ⟨#[]⟩, .slice none 0 0, .slice none 0 0, .slice none 0 0, .bool false, .int .i64 0, .int .i64 0, .int .i64 0, .slice none 0 0] := Blk.new w 26 _
  have hb1 : Below w.heap.size w (w.alloc (.cells #[Value.int .i64 0, .string ⟨#[]⟩, .slice none 0 0, .slice none 0 0, .slice none 0 0, .bool false, .int .i64 0, .int .i64 0, .int .i64 0, .slice none 0 0] 26)) := on_alloc _ _
  have hs1 : (w.alloc (.cells #[Value.int .i64 0, .string ⟨#[]⟩, .slice none 0 0, .slice none 0 0, .slice none 0 0, .bool false, .int .i64 0, .int .i64 0, .int .i64 0, .slice none 0 0] 26)).heap.size = w.heap.size + 1 := by simp
  have hr1 := (h1.below hb1).more hb1.size
  have hr2 := (h2.below hb1).more hb1.size
  have hr3 := (h3.below hb1).more hb1.size
  clear h1 h2 h3
  go_enter Tryz.func14, Tryz.ntmps14
  have ho1 : ((w.alloc (.cells #[Value.int .i64 0, .string ⟨#[]⟩, .slice none 0 0, .slice none 0 0, .slice none 0 0, .bool false, .int .i64 0, .int .i64 0, .int .i64 0, .slice none 0 0] 26)).alloc (.cells #[] 9)).ownsRow (w.heap.size + 1) 9 1 (.slice (some ⟨w.heap.size + 1, 0, none⟩) 0 0) 0 [] := by
    have := fresh_own (w.alloc (.cells #[Value.int .i64 0, .string ⟨#[]⟩, .slice none 0 0, .slice none 0 0, .slice none 0 0, .bool false, .int .i64 0, .int .i64 0, .int .i64 0, .slice none 0 0] 26)) 9
    rw [hs1] at this
    exact this
  have hR1 := hide (hr1.alloc (Nat.le_refl _) (.cells #[] 9))
  have HO1 := hide ho1
  clear ho1
  go_wp2_with (at_builtin; (refine wpList_append_any _ rfl (.tmp 13) (.tmp 14) 22 rfl (w.heap.size + 1) 9 i0 _ 1 16 Tryz.underlying22 hi hz0 hz1 hz2 rfl (by omega) (.slice (some ⟨w.heap.size + 1, 0, none⟩) 0 0) 0 [] rfl HO1.out (w.alloc (.cells #[Value.int .i64 0, .string ⟨#[]⟩, .slice none 0 0, .slice none 0 0, .slice none 0 0, .bool false, .int .i64 0, .int .i64 0, .int .i64 0, .slice none 0 0] 26)).heap.size A an ac (svs args) rfl hR1.out (svs_one args) ?c1 ?c2 ?c3 ?_))
  case c1 => unfold maxLen; omega
  case c2 => omega
  case c3 => simp
  intro v1 w1 hown1 hg1 hat1
  obtain ⟨A1, k1, rfl⟩ := own_slice hown1
  have HT1 : Hid (Below (w.alloc (.cells #[Value.int .i64 0, .string ⟨#[]⟩, .slice none 0 0, .slice none 0 0, .slice none 0 0, .bool false, .int .i64 0, .int .i64 0, .int .i64 0, .slice none 0 0] 26)).heap.size (w.alloc (.cells #[Value.int .i64 0, .string ⟨#[]⟩, .slice none 0 0, .slice none 0 0, .slice none 0 0, .bool false, .int .i64 0, .int .i64 0, .int .i64 0, .slice none 0 0] 26)) w1) := hide ((on_alloc (w.alloc (.cells #[Value.int .i64 0, .string ⟨#[]⟩, .slice none 0 0, .slice none 0 0, .slice none 0 0, .bool false, .int .i64 0, .int .i64 0, .int .i64 0, .slice none 0 0] 26)) (.cells #[] 9)).grown hg1 (by simp) (fun g hg => by simp [Value.ownBlock] at hg; omega))
  have HW1 : Hid (Ow (w.heap.size + 1) w1 A1 an k1 args) := hide (by unfold Ow; simpa using hown1)
  have hs2 : w.heap.size + 1 ≤ w1.heap.size := by have := HT1.out.size; omega
  have HR2 := hide (((hr2.below HT1.out).more HT1.out.size).alloc (Nat.le_refl _) (.cells #[] 9))
  have HR3 := hide ((hr3.below HT1.out).more HT1.out.size)
  have HA2 := hide (hA1.below HT1.out (by omega))
  have HB2 := hide (hb1.trans (HT1.out.mono (by omega)))
  have HO2 := hide (fresh_own w1 9)
  clear hown1 hg1 hat1 hr1 hr2 hr3 hA1 hb1 hR1 HO1 HT1
  go_wp2_with (at_builtin; (refine wpList_append_any _ rfl (.tmp 16) (.tmp 17) 22 rfl w1.heap.size 9 i0 _ 1 16 Tryz.underlying22 hi hz0 hz1 hz2 rfl (by omega) (.slice (some ⟨w1.heap.size, 0, none⟩) 0 0) 0 [] rfl HO2.out w1.heap.size E en ec (svs env) rfl HR2.out (svs_one env) ?d1 ?d2 ?d3 ?_))
  case d1 => unfold maxLen; omega
  case d2 => omega
  case d3 => simp
  intro v2 w2 hown2 hg2 hat2
  obtain ⟨E2, k2, rfl⟩ := own_slice hown2
  have HT2 : Hid (Below w1.heap.size w1 w2) := hide ((on_alloc w1 (.cells #[] 9)).grown hg2 (by simp) (fun g hg => by simp [Value.ownBlock] at hg; omega))
  have HW2 : Hid (Ow (w.heap.size + 1) w2 E2 en k2 env) := hide (Ow.more (B := w1.heap.size) (by unfold Ow; simpa using hown2) hs2)
  have HW1b := hide (HW1.out.below HT2.out)
  have HR3b := hide (((HR3.out.below HT2.out).more HT2.out.size).alloc (Nat.le_refl _) (.cells #[] 3))
  have HA3 := hide (HA2.out.below HT2.out HA2.out.lt)
  have HB3 := hide (HB2.out.trans (HT2.out.mono HB2.out.size))
  have HO3 := hide (fresh_own w2 3)
  have hs3 : w.heap.size + 1 ≤ w2.heap.size := by have := HT2.out.size; omega
  clear hown2 hg2 hat2 HT2 HW1 HR3 HA2 HB2 HO2 HR2
  go_wp2_with (at_builtin; (refine wpList_append_any _ rfl (.tmp 19) (.tmp 20) 23 rfl w2.heap.size 3 i1 _ 1 8 Tryz.underlying23 hj hy0 hy1 hy2 rfl (by omega) (.slice (some ⟨w2.heap.size, 0, none⟩) 0 0) 0 [] rfl HO3.out w2.heap.size F fn fc (ivs fds) rfl HR3b.out (ivs_one fds) ?e1 ?e2 ?e3 ?_))
  case e1 => unfold maxLen; omega
  case e2 => omega
  case e3 => simp
  intro v3 w3 hown3 hg3 hat3
  obtain ⟨F3, k3, rfl⟩ := own_slice hown3
  have HT3 : Hid (Below w2.heap.size w2 w3) := hide ((on_alloc w2 (.cells #[] 3)).grown hg3 (by simp) (fun g hg => by simp [Value.ownBlock] at hg; omega))
  have HW3 : Hid (Oi (w.heap.size + 1) w3 F3 fn k3 fds) := hide (own_more (base := w2.heap.size) (by simpa using hown3) hs3)
  have HOP : Hid (OwP (w.heap.size + 1) w3 (bornP pid prog args env fds) ⟨A1, an, k1, E2, en, k2, F3, fn, k3, none, 0, 0⟩) := hide ⟨HW1b.out.below HT3.out, HW2.out.below HT3.out, HW3.out, Od.none_ _ _ _⟩
  have HA4 := hide (HA3.out.below HT3.out HA3.out.lt)
  have HB4 := hide (HB3.out.trans (HT3.out.mono HB3.out.size))
  have hg4 : w.heap.size < w3.heap.size := HA4.out.lt
  clear hown3 hg3 hat3 HT3 HW1b HW2 HW3 HA3 HB3 HO3 HR3b
  obtain ⟨⟨c0, c1, c2, c3, c4, c5, c6, c7, c8, c9⟩, f0, f1, f2, f3, f4, f5, f6, f7, f8, f9⟩ := ten HA4.out
  (try simp only [Nat.zero_add])
  go_wp2_with fail
  refine bodyPost_ret (v := .agg #[Value.int .i64 (bornP pid prog args env fds).pid, .string ⟨(bornP pid prog args env fds).prog.toArray⟩, .slice (⟨A1, an, k1, E2, en, k2, F3, fn, k3, none, 0, 0⟩ : PS).A (⟨A1, an, k1, E2, en, k2, F3, fn, k3, none, 0, 0⟩ : PS).an (⟨A1, an, k1, E2, en, k2, F3, fn, k3, none, 0, 0⟩ : PS).ac, .slice (⟨A1, an, k1, E2, en, k2, F3, fn, k3, none, 0, 0⟩ : PS).E (⟨A1, an, k1, E2, en, k2, F3, fn, k3, none, 0, 0⟩ : PS).en (⟨A1, an, k1, E2, en, k2, F3, fn, k3, none, 0, 0⟩ : PS).ec, .slice (⟨A1, an, k1, E2, en, k2, F3, fn, k3, none, 0, 0⟩ : PS).F (⟨A1, an, k1, E2, en, k2, F3, fn, k3, none, 0, 0⟩ : PS).fn (⟨A1, an, k1, E2, en, k2, F3, fn, k3, none, 0, 0⟩ : PS).fc, .bool (bornP pid prog args env fds).done, .int .i64 (bornP pid prog args env fds).status, .int .i64 (bornP pid prog args env fds).phase, .int .i64 (bornP pid prog args env fds).count, .slice (⟨A1, an, k1, E2, en, k2, F3, fn, k3, none, 0, 0⟩ : PS).D (⟨A1, an, k1, E2, en, k2, F3, fn, k3, none, 0, 0⟩ : PS).dn (⟨A1, an, k1, E2, en, k2, F3, fn, k3, none, 0, 0⟩ : PS).dc]) (by simp only [results, Tryz.results14]; go_simp; exact ⟨rfl, rfl, rfl, rfl, rfl, rfl⟩) rfl ⟨⟨A1, an, k1, E2, en, k2, F3, fn, k3, none, 0, 0⟩, rfl, ?_, ?_⟩
  · refine OwP.in_ (B := w.heap.size + 1) ?_
    repeat (refine OwP.far ?_ (by simp) _)
    exact HOP.out
  · repeat (refine Below.setCell ?_ (by simp) _)
    exact HB4.out
end Go.Proofs.YtlkccboongnneaaGreatDoor
