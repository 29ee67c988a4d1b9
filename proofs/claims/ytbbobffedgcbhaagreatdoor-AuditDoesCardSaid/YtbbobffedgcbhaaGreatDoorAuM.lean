/- The two steps of writing: add, sync. -/
import Derived.Test.YtbbobffedgcbhaaGreatDoorAuC
namespace Go.Proofs.YtbbobffedgcbhaaGreatDoor
open Go.RowKit
set_option linter.unusedVariables false
theorem blk6 {w : World} {g : Nat} {t : TypeId} {a b c d e f : Value} (H : Blk w g t #[a, b, c, d, e, f]) : (w.cell? ⟨g, 0, none⟩ = some a ∧ w.cell? ⟨g, 1, none⟩ = some b ∧ w.cell? ⟨g, 2, none⟩ = some c ∧ w.cell? ⟨g, 3, none⟩ = some d ∧ w.cell? ⟨g, 4, none⟩ = some e ∧ w.cell? ⟨g, 5, none⟩ = some f) ∧ w.frozen? ⟨g, 0, none⟩ = false ∧ w.frozen? ⟨g, 1, none⟩ = false ∧ w.frozen? ⟨g, 2, none⟩ = false ∧ w.frozen? ⟨g, 3, none⟩ = false ∧ w.frozen? ⟨g, 4, none⟩ = false ∧ w.frozen? ⟨g, 5, none⟩ = false :=
  ⟨H.six, H.frozen 0, H.frozen 1, H.frozen 2, H.frozen 3, H.frozen 4, H.frozen 5⟩
/-- How a step ends: the disk in the medium is another one. -/
def StepEnd (g : Nat) (room : Int) (T : Bool) (R E : Int) (S P : LB) (D : Option Addr) (dn dc : Nat) (w : World) (e : Ending) (w' : World) : Prop := ∃ A n c B m k, e = .returned (.int .i64 E) ∧ Blk w' g 63 #[.slice A n c, .slice B m k, .int .i64 room, .bool T, .int .i64 R, .slice D dn dc] ∧ Dk.Rc w.heap.size w' A n c S ∧ Dk.Rc w.heap.size w' B m k P ∧ Below g w w' ∧ (∀ b, b < w.heap.size → b ≠ g → w'.heap[b]? = w.heap[b]?)
theorem keep5 {w w1 : World} {b g : Nat} {v0 v1 v2 v3 v4 : Value} (h : w1.heap[b]? = w.heap[b]?) (hne : b ≠ g) : (((((w1.setCell ⟨g, 0, none⟩ v0).setCell ⟨g, 1, none⟩ v1).setCell ⟨g, 2, none⟩ v2).setCell ⟨g, 3, none⟩ v3).setCell ⟨g, 4, none⟩ v4).heap[b]? = w.heap[b]? := by
  rw [Below.heap_setCell _ _ _ b hne, Below.heap_setCell _ _ _ b hne, Below.heap_setCell _ _ _ b hne, Below.heap_setCell _ _ _ b hne, Below.heap_setCell _ _ _ b hne, h]
set_option maxRecDepth 100000 in
set_option maxHeartbeats 8000000 in
theorem sync_step (g : Nat) (s p : LB) (room : Int) (dead : Bool) (arm : Int) (A : Option Addr) (n c : Nat) (B : Option Addr) (m k : Nat) (D : Option Addr) (dn dc : Nat) (w : World) (hP : Blk w g 63 #[Value.slice A n c, .slice B m k, .int .i64 room, .bool dead, .int .i64 arm, .slice D dn dc]) (rs : Rd w A n s) (rp : Rd w B m p) (sn : n ≤ 10000) (sm : m ≤ 10000) (ha : arm ≤ 9223372036854775807) :
    Calls Tryz.prog 29 #[.pointer (some ⟨g, 0, none⟩)] w (StepEnd g room (Dk.apD s.length p.length room dead arm) (Dk.apA s.length p.length room dead arm) (Dk.syE s.length p.length room dead arm) (Dk.syS s p (Dk.syE s.length p.length room dead arm)) (Dk.syP p (Dk.syE s.length p.length room dead arm)) D dn dc w) := by
  have hls := rs.len
  have hlp := rp.len
  have X := hide (Dk.sync_any A c B k room dead arm s p w (by rw [hls]; exact rs) (by rw [hlp]; exact rp) (by omega) (by omega) ha)
  unfold Dk.DEnd at X
  obtain ⟨T, hT⟩ : ∃ T, Dk.apD s.length p.length room dead arm = T := ⟨_, rfl⟩
  obtain ⟨R, hR⟩ : ∃ T, Dk.apA s.length p.length room dead arm = T := ⟨_, rfl⟩
  obtain ⟨E, hE⟩ : ∃ T, Dk.syE s.length p.length room dead arm = T := ⟨_, rfl⟩
  rw [hT, hR, hE] at X
  rw [hT, hR, hE]
  rw [hls, hlp] at X
  clear hT hR hE hls hlp rs rp
  have gl := hP.lt
  obtain ⟨⟨x0, x1, x2, x3, x4, x5⟩, y0, y1, y2, y3, y4, y5⟩ := blk6 hP
  have HP := hide hP
  clear hP
  unfold Dk.dv at *
  go_enter Tryz.func29, Tryz.ntmps29
  go_wp2_with fail
  refine X.out.mono ?_
  rintro e1 w1 ⟨A1, n1, c1, B1, m1, k1, rfl, u1, u2, u3⟩
  have hP1 := HP.out.below u3 gl
  have gl1 := hP1.lt
  have HP1 := hide hP1
  have HU1 := hide u1
  have HU2 := hide u2
  have HB := hide u3
  clear x0 x1 x2 x3 x4 x5 y0 y1 y2 y3 y4 y5 u1 u2 u3 X HP
  obtain ⟨⟨x0, x1, x2, x3, x4, x5⟩, y0, y1, y2, y3, y4, y5⟩ := blk6 hP1
  clear hP1
  go_wp2_with fail
  go_ret
  refine ⟨A1, n1, c1, B1, m1, k1, rfl, ?_, ?_, ?_, ?_, ?_⟩
  · exact ((((HP1.out.set_ 0 _).set_ 1 _).set_ 2 _).set_ 3 _).set_ 4 _
  · exact own_far (own_far (own_far (own_far (own_far HU1.out gl _) gl _) gl _) gl _) gl _
  · exact own_far (own_far (own_far (own_far (own_far HU2.out gl _) gl _) gl _) gl _) gl _
  · exact (((((HB.out.mono (Nat.le_of_lt gl)).setCell (Nat.le_refl _) _).setCell (Nat.le_refl _) _).setCell (Nat.le_refl _) _).setCell (Nat.le_refl _) _).setCell (Nat.le_refl _) _
  · exact fun b hb hne => keep5 (HB.out.block b hb) hne
set_option maxRecDepth 100000 in
set_option maxHeartbeats 8000000 in
theorem add_step (g : Nat) (s p b : LB) (room : Int) (dead : Bool) (arm : Int) (A : Option Addr) (n c : Nat) (B : Option Addr) (m k : Nat) (D : Option Addr) (dn dc : Nat) (w : World) (hP : Blk w g 63 #[Value.slice A n c, .slice B m k, .int .i64 room, .bool dead, .int .i64 arm, .slice D dn dc]) (rs : Rd w A n s) (rp : Rd w B m p) (rd : Rd w D dn b) (sn : n ≤ 10000) (sm : m ≤ 10000) (sd : dn ≤ 10000) (ha : arm ≤ 9223372036854775807) :
    Calls Tryz.prog 28 #[.pointer (some ⟨g, 0, none⟩)] w (StepEnd g room (Dk.apD s.length p.length room dead arm) (Dk.apA s.length p.length room dead arm) (Dk.apE s.length p.length room dead arm b.length) s (Dk.apP s.length p.length p room dead arm b) D dn dc w) := by
  have hls := rs.len
  have hlp := rp.len
  have hlb := rd.len
  have X := hide (fun W (hW : Below w.heap.size w W) => Dk.append_any A c B k room dead arm s p b D dc W (by rw [hls]; exact rb rs hW) (by rw [hlp]; exact rb rp hW) (by rw [hlb]; exact rb rd hW) (by omega) (by omega) (by omega) ha)
  unfold Dk.DEnd at X
  obtain ⟨T, hT⟩ : ∃ T, Dk.apD s.length p.length room dead arm = T := ⟨_, rfl⟩
  obtain ⟨R, hR⟩ : ∃ T, Dk.apA s.length p.length room dead arm = T := ⟨_, rfl⟩
  obtain ⟨E, hE⟩ : ∃ T, Dk.apE s.length p.length room dead arm b.length = T := ⟨_, rfl⟩
  obtain ⟨Q, hQ⟩ : ∃ T, Dk.apP s.length p.length p room dead arm b = T := ⟨_, rfl⟩
  rw [hT, hR, hE, hQ] at X
  rw [hT, hR, hE, hQ]
  rw [hls, hlp, hlb] at X
  clear hT hR hE hQ hls hlp hlb rs rp rd
  have gl := hP.lt
  obtain ⟨⟨x0, x1, x2, x3, x4, x5⟩, y0, y1, y2, y3, y4, y5⟩ := blk6 hP
  have HP := hide hP
  clear hP
  unfold Dk.dv at *
  go_enter Tryz.func28, Tryz.ntmps28
  go_wp2_with fail
  go_region_law (first
    | (go_simp; go_at_call 50
       refine (X.out w.drew (Below.refl _ w).drew).mono ?_
       rintro e1 w1 ⟨A1, n1, c1, B1, m1, k1, rfl, u1, u2, u3⟩
       have hP1 : Blk w1 g 63 #[Value.slice A n c, .slice B m k, .int .i64 room, .bool dead, .int .i64 arm, .slice D dn dc] := Blk.below (h := (show Blk w.drew g 63 #[Value.slice A n c, .slice B m k, .int .i64 room, .bool dead, .int .i64 arm, .slice D dn dc] from HP.out)) (hb := u3) (by exact gl)
       have gl1 := hP1.lt
       have HP1 := hide hP1
       have HU1 := hide u1
       have HU2 := hide u2
       have HB : Hid (Below w.heap.size w w1) := hide ((Below.refl w.heap.size w).drew.trans (by exact u3))
       clear u1 u2 u3
       obtain ⟨⟨i0, i1, i2, i3, i4, i5⟩, j0, j1, j2, j3, j4, j5⟩ := blk6 hP1))
  all_goals
    clear x0 x1 x2 x3 x4 x5 y0 y1 y2 y3 y4 y5
    go_wp2
    first | go_ret | skip
    refine ⟨A1, n1, c1, B1, m1, k1, rfl, ?_, ?_, ?_, ?_, ?_⟩
    · exact ((((HP1.out.set_ 0 _).set_ 1 _).set_ 2 _).set_ 3 _).set_ 4 _
    · exact own_far (own_far (own_far (own_far (own_far HU1.out gl _) gl _) gl _) gl _) gl _
    · exact own_far (own_far (own_far (own_far (own_far HU2.out gl _) gl _) gl _) gl _) gl _
    · exact (((((HB.out.mono (Nat.le_of_lt gl)).setCell (Nat.le_refl _) _).setCell (Nat.le_refl _) _).setCell (Nat.le_refl _) _).setCell (Nat.le_refl _) _).setCell (Nat.le_refl _) _
    · exact fun b hb hne => keep5 (HB.out.block b hb) hne
end Go.Proofs.YtbbobffedgcbhaaGreatDoor
