/- What the law's heads need of logs as plain data. The law's heads. -/
import Derived.Test.YtbbobffedgcbhaaGreatDoorAuWf
import Derived.Test.YtbbobffedgcbhaaGreatDoorAuR
namespace Go.Proofs.YtbbobffedgcbhaaGreatDoor
set_option linter.unusedVariables false
def rA : Rec := ⟨0, 12, [47, 97], [], [], false⟩
def rB : Rec := ⟨1, 12, [47, 98], [], [], false⟩
theorem encA : (encP rA).length = 12 := by kernel_rfl
theorem encB : (encP rB).length = 12 := by kernel_rfl
theorem okA : okP 0 [rA] := ⟨by kernel_rfl, rfl, trivial⟩
theorem scan_nil : scanB [] = ([], zero32, 0) := scanB_all [] trivial
theorem heads_logs : ∃ EB D0 : LB, entP zero32 rA = EB ∧ digP zero32 (encP rA) = D0 ∧ EB.length = 46 ∧ D0.length = 32 ∧ scanB EB = ([rA], D0, 46) ∧
    opP [] 70 (-1) = ⟨[], [], 70, false, -1, 0, zero32, false⟩ ∧ okL ⟨[], [], 70, false, -1, 0, zero32, false⟩ = true ∧
    okL ⟨EB, [], 70, false, -1, 1, D0, false⟩ = true ∧ okL ⟨EB, [], 70, false, -1, 1, D0, true⟩ = true ∧
    (entP D0 rB).length = 46 ∧ opP EB 70 (-1) = ⟨EB, [], 70, false, -1, 1, D0, false⟩ := by
  have h1 := scanB_all [rA] okA
  have c1 : lenP [rA] = 46 := by kernel_rfl
  have e : allP zero32 [rA] = entP zero32 rA := by rw [allP, allP, List.append_nil]
  have e2 : lastP zero32 [rA] = digP zero32 (encP rA) := by rw [lastP, lastP]
  rw [c1, e, e2] at h1
  have hl : (entP zero32 rA).length = 46 := by rw [ent_length, encA]
  have hd : (digP zero32 (encP rA)).length = 32 := digP_length _ _
  obtain ⟨EB, hEB⟩ : ∃ x, entP zero32 rA = x := ⟨_, rfl⟩
  obtain ⟨D0, hD0⟩ : ∃ x, digP zero32 (encP rA) = x := ⟨_, rfl⟩
  rw [hEB] at h1 hl
  rw [hD0] at h1 hd
  refine ⟨EB, D0, hEB, hD0, hl, hd, h1, ?_, ?_, ?_, ?_, by rw [ent_length, encB], ?_⟩
  · unfold opP; rw [scan_nil]; rfl
  · refine okL_join (by decide) ?_ ?_ ?_
    · dsimp only; rw [scan_nil]; rfl
    · dsimp only; rw [scan_nil]
    · right; dsimp only; rw [scan_nil]; exact ⟨rfl, rfl, rfl⟩
  · refine okL_join ?_ ?_ ?_ ?_
    · dsimp only; rw [hl]; decide
    · dsimp only; rw [h1]; rfl
    · dsimp only; rw [h1]
    · right; dsimp only; rw [h1, hl]; exact ⟨rfl, rfl, rfl⟩
  · refine okL_join ?_ ?_ ?_ ?_
    · dsimp only; rw [hl]; decide
    · dsimp only; rw [h1]; rfl
    · dsimp only; rw [h1]
    · left; rfl
  · unfold opP
    rw [h1]
    dsimp only
    rw [List.take_of_length_le (by omega)]
    rfl
end Go.Proofs.YtbbobffedgcbhaaGreatDoor
namespace Go.Proofs.YtbbobffedgcbhaaGreatDoor
open Go.RowKit
set_option linter.unusedVariables false
set_option maxHeartbeats 4000000 in
theorem rd_log8 {w : World} {b : Nat} {A : Option Addr} {n : Nat} {bs : LB} (h : Rd w A n bs) {A0 B0 H0 : Option Addr} {n0 c0 m0 k0 h0 g0 : Nat} {r0 x0 q0 : Int} {d0 s0 : Bool} (hb : Blk w b 26 #[.slice A0 n0 c0, .slice B0 m0 k0, .int .i64 r0, .bool d0, .int .i64 x0, .int .i64 q0, .slice H0 h0 g0, .bool s0]) (v0 v1 v2 v3 v4 v5 v6 v7 : Value) :
    Rd ((((((((w.setCell ⟨b, 0, none⟩ v0).setCell ⟨b, 1, none⟩ v1).setCell ⟨b, 2, none⟩ v2).setCell ⟨b, 3, none⟩ v3).setCell ⟨b, 4, none⟩ v4).setCell ⟨b, 5, none⟩ v5).setCell ⟨b, 6, none⟩ v6).setCell ⟨b, 7, none⟩ v7) A n bs := by
  have k1 : Blk _ b 26 #[v0, .slice B0 m0 k0, .int .i64 r0, .bool d0, .int .i64 x0, .int .i64 q0, .slice H0 h0 g0, .bool s0] := hb.set_ 0 v0
  have k2 : Blk _ b 26 #[v0, v1, .int .i64 r0, .bool d0, .int .i64 x0, .int .i64 q0, .slice H0 h0 g0, .bool s0] := k1.set_ 1 v1
  have k3 : Blk _ b 26 #[v0, v1, v2, .bool d0, .int .i64 x0, .int .i64 q0, .slice H0 h0 g0, .bool s0] := k2.set_ 2 v2
  have k4 : Blk _ b 26 #[v0, v1, v2, v3, .int .i64 x0, .int .i64 q0, .slice H0 h0 g0, .bool s0] := k3.set_ 3 v3
  have k5 : Blk _ b 26 #[v0, v1, v2, v3, v4, .int .i64 q0, .slice H0 h0 g0, .bool s0] := k4.set_ 4 v4
  have k6 : Blk _ b 26 #[v0, v1, v2, v3, v4, v5, .slice H0 h0 g0, .bool s0] := k5.set_ 5 v5
  have k7 : Blk _ b 26 #[v0, v1, v2, v3, v4, v5, v6, .bool s0] := k6.set_ 6 v6
  have r0_ := Reads.set1 h (show _ = some (Value.slice A0 n0 c0) from hb.cell 0) (fun z => by simp) v0
  have r1_ := Reads.set1 r0_ (show _ = some (Value.slice B0 m0 k0) from k1.cell 1) (fun z => by simp) v1
  have r2_ := Reads.set1 r1_ (show _ = some (Value.int .i64 r0) from k2.cell 2) (fun z => by simp) v2
  have r3_ := Reads.set1 r2_ (show _ = some (Value.bool d0) from k3.cell 3) (fun z => by simp) v3
  have r4_ := Reads.set1 r3_ (show _ = some (Value.int .i64 x0) from k4.cell 4) (fun z => by simp) v4
  have r5_ := Reads.set1 r4_ (show _ = some (Value.int .i64 q0) from k5.cell 5) (fun z => by simp) v5
  have r6_ := Reads.set1 r5_ (show _ = some (Value.slice H0 h0 g0) from k6.cell 6) (fun z => by simp) v6
  have r7_ := Reads.set1 r6_ (show _ = some (Value.bool s0) from k7.cell 7) (fun z => by simp) v7
  exact r7_.more (by simp)
set_option maxHeartbeats 4000000 in
theorem set_log8 {w : World} {b : Nat} {a0 a1 a2 a3 a4 a5 a6 a7 : Value} (hb : Blk w b 26 #[a0, a1, a2, a3, a4, a5, a6, a7]) (v0 v1 v2 v3 v4 v5 v6 v7 : Value) :
    Blk ((((((((w.setCell ⟨b, 0, none⟩ v0).setCell ⟨b, 1, none⟩ v1).setCell ⟨b, 2, none⟩ v2).setCell ⟨b, 3, none⟩ v3).setCell ⟨b, 4, none⟩ v4).setCell ⟨b, 5, none⟩ v5).setCell ⟨b, 6, none⟩ v6).setCell ⟨b, 7, none⟩ v7) b 26 #[v0, v1, v2, v3, v4, v5, v6, v7] := by
  have k1 : Blk _ b 26 #[v0, a1, a2, a3, a4, a5, a6, a7] := hb.set_ 0 v0
  have k2 : Blk _ b 26 #[v0, v1, a2, a3, a4, a5, a6, a7] := k1.set_ 1 v1
  have k3 : Blk _ b 26 #[v0, v1, v2, a3, a4, a5, a6, a7] := k2.set_ 2 v2
  have k4 : Blk _ b 26 #[v0, v1, v2, v3, a4, a5, a6, a7] := k3.set_ 3 v3
  have k5 : Blk _ b 26 #[v0, v1, v2, v3, v4, a5, a6, a7] := k4.set_ 4 v4
  have k6 : Blk _ b 26 #[v0, v1, v2, v3, v4, v5, a6, a7] := k5.set_ 5 v5
  have k7 : Blk _ b 26 #[v0, v1, v2, v3, v4, v5, v6, a7] := k6.set_ 6 v6
  have k8 : Blk _ b 26 #[v0, v1, v2, v3, v4, v5, v6, v7] := k7.set_ 7 v7
  exact k8
theorem LogIn.log8 {w : World} {b : Nat} {L : Lg} {A : Option Addr} {n c : Nat} {B : Option Addr} {m k : Nat} {H : Option Addr} {hn hc : Nat} (h : LogIn w L A n c B m k H hn hc) {A0 B0 H0 : Option Addr} {n0 c0 m0 k0 h0 g0 : Nat} {r0 x0 q0 : Int} {d0 s0 : Bool} (hb : Blk w b 26 #[.slice A0 n0 c0, .slice B0 m0 k0, .int .i64 r0, .bool d0, .int .i64 x0, .int .i64 q0, .slice H0 h0 g0, .bool s0]) (v0 v1 v2 v3 v4 v5 v6 v7 : Value) :
    LogIn ((((((((w.setCell ⟨b, 0, none⟩ v0).setCell ⟨b, 1, none⟩ v1).setCell ⟨b, 2, none⟩ v2).setCell ⟨b, 3, none⟩ v3).setCell ⟨b, 4, none⟩ v4).setCell ⟨b, 5, none⟩ v5).setCell ⟨b, 6, none⟩ v6).setCell ⟨b, 7, none⟩ v7) L A n c B m k H hn hc :=
  ⟨rd_log8 h.rs hb _ _ _ _ _ _ _ _, h.ls, rd_log8 h.rp hb _ _ _ _ _ _ _ _, h.lp, rd_log8 h.rh hb _ _ _ _ _ _ _ _, h.lh, h.sn, h.sm, h.sh⟩
theorem hopen (ho : opP [] 70 (-1) = ⟨[], [], 70, false, -1, 0, zero32, false⟩) (w : World) (hS : Std w) (hT : Tabs w) :
    Calls Tryz.prog 6 #[.agg #[.slice none 0 0, .slice none 0 0, .int .i64 70, .bool false, .int .i64 (-1)]] w fun e w' => ∃ A c B k H hc O co, e = .returned (.tuple #[.agg #[Value.slice A 0 c, .slice B 0 k, .int .i64 70, .bool false, .int .i64 (-1), .int .i64 0, .slice H 32 hc, .bool false], .slice O 0 co, .int .i64 0]) ∧ LogIn w' ⟨[], [], 70, false, -1, 0, zero32, false⟩ A 0 c B 0 k H 32 hc ∧ Below w.heap.size w w' := by
  refine (aopen_ok [] [] 70 (-1) none 0 0 none 0 0 w Reads.none_ (Nat.le_refl _) Reads.none_ (Nat.le_refl _) rfl (by omega) (by decide) hS hT).mono ?_
  rintro e w' ⟨A, n, c, B, m, k, H, hc, O, co, l, rfl, g1, g2, g3, g4⟩
  rw [scan_nil] at g3
  have hl : l = [] := by simpa using g3
  subst hl
  rw [ho] at g1 ⊢
  have hn : n = 0 := by have := g1.rs.len; simpa using this.symm
  have hm : m = 0 := by have := g1.rp.len; simpa using this.symm
  subst hn hm
  exact ⟨A, c, B, k, H, hc, O, co, rfl, g1, g4⟩
theorem aw1 {EB D0 : LB} (h1 : entP zero32 rA = EB) (h2 : digP zero32 (encP rA) = D0) (h3 : EB.length = 46) (hok : okL ⟨[], [], 70, false, -1, 0, zero32, false⟩ = true) (A B H : Option Addr) (c k hc : Nat) (w : World) (hI : LogIn w ⟨[], [], 70, false, -1, 0, zero32, false⟩ A 0 c B 0 k H 32 hc) (hS : Std w) (hT : Tabs w) :
    Calls Tryz.prog 8 #[.agg #[Value.slice A 0 c, .slice B 0 k, .int .i64 70, .bool false, .int .i64 (-1), .int .i64 0, .slice H 32 hc, .bool false], .agg #[.int .i64 0, .int .i64 12, .string ⟨#[47, 97]⟩, .string ⟨#[]⟩, .slice none 0 0, .bool false]] w fun e w' => ∃ A c B k H hc, e = .returned (.tuple #[.agg #[Value.slice A 46 c, .slice B 0 k, .int .i64 70, .bool false, .int .i64 (-1), .int .i64 1, .slice H 32 hc, .bool false], .int .i64 0]) ∧ LogIn w' ⟨EB, [], 70, false, -1, 1, D0, false⟩ A 46 c B 0 k H 32 hc ∧ Below w.heap.size w w' := by
  have hr : ({ rA with seq := ((0 : Nat) : Int) } : Rec) = rA := rfl
  have e1 : Dk.apE 0 0 70 false (-1) 46 = 0 := by decide
  have e2 : Dk.apP 0 0 [] 70 false (-1) EB = EB := by unfold Dk.apP; rw [h3, e1]; rfl
  have e3 : Dk.apD 0 0 70 false (-1) = false := by decide
  have e4 : Dk.apA 0 0 70 false (-1) = -1 := by decide
  have e5 : Dk.apD 0 46 70 false (-1) = false := by decide
  have e6 : Dk.apA 0 46 70 false (-1) = -1 := by decide
  have e7 : Dk.syE 0 46 70 false (-1) = 0 := by decide
  have h := awrite_ok [] [] zero32 70 (-1) false false 0 rA A 0 c B 0 k H hc none 0 0 w hI hok rfl (by rw [hr]; kernel_rfl) Reads.none_ (by omega) (by omega) (by rw [hr, h1, h3]; exact e1) (by rw [hr, h1]; show Dk.syE 0 (Dk.apP 0 0 [] 70 false (-1) EB).length 70 (Dk.apD 0 0 70 false (-1)) (Dk.apA 0 0 70 false (-1)) = 0; rw [e2, h3, e3, e4]; exact e7) hS hT
  rw [hr, h1, h2, List.length_nil, List.nil_append, e2, h3, e3, e4, e5, e6] at h
  refine h.mono ?_
  rintro e w' ⟨A, n, c, B, m, k, H, hc, rfl, g1, g2, g3, g4, g5, g6, g7⟩
  have hn : n = 46 := by rw [← g1.len, h3]
  have hm : m = 0 := by have := g3.len; simpa using this.symm
  subst hn hm
  exact ⟨A, c, B, k, H, hc, rfl, ⟨g1, g2, g3, g4, g5, g6, by omega, by omega, by omega⟩, g7⟩
theorem aw2 {EB D0 : LB} (h3 : EB.length = 46) (h4 : (entP D0 rB).length = 46) (hok : okL ⟨EB, [], 70, false, -1, 1, D0, false⟩ = true) (a0 a1 a2 : Addr) (A B H : Option Addr) (c k hc : Nat) (w : World) (hI : LogIn w ⟨EB, [], 70, false, -1, 1, D0, false⟩ A 46 c B 0 k H 32 hc) (hS : Std w) (hT : Tabs w) (hE : Sent a0 a1 a2 w) :
    Calls Tryz.prog 8 #[.agg #[Value.slice A 46 c, .slice B 0 k, .int .i64 70, .bool false, .int .i64 (-1), .int .i64 1, .slice H 32 hc, .bool false], .agg #[.int .i64 0, .int .i64 12, .string ⟨#[47, 98]⟩, .string ⟨#[]⟩, .slice none 0 0, .bool false]] w fun e w' => ∃ A c B k H hc, e = .returned (.tuple #[.agg #[Value.slice A 46 c, .slice B 0 k, .int .i64 70, .bool false, .int .i64 (-1), .int .i64 1, .slice H 32 hc, .bool true], .int .i64 42]) ∧ LogIn w' ⟨EB, [], 70, false, -1, 1, D0, true⟩ A 46 c B 0 k H 32 hc ∧ Below w.heap.size w w' := by
  have hr : ({ (⟨0, 12, [47, 98], [], [], false⟩ : Rec) with seq := ((1 : Nat) : Int) } : Rec) = rB := rfl
  have e1 : Dk.apE 46 0 70 false (-1) 46 = 35 := by decide
  have e2 : Dk.apP 46 0 [] 70 false (-1) (entP D0 rB) = [] := by unfold Dk.apP; rw [h4, e1]; rfl
  have e3 : Dk.apD 46 0 70 false (-1) = false := by decide
  have e4 : Dk.apA 46 0 70 false (-1) = -1 := by decide
  have h := awrite_full EB [] D0 70 (-1) false false 1 ⟨0, 12, [47, 98], [], [], false⟩ a0 a1 a2 A 46 c B 0 k H hc none 0 0 w hI hok rfl (by rw [hr]; kernel_rfl) Reads.none_ (by omega) (by rw [hr, h3, h4]; show Dk.apE 46 0 70 false (-1) 46 ≠ 0; rw [e1]; decide) hS hT hE
  rw [hr, h3, List.length_nil, e2, e3, e4] at h
  refine h.mono ?_
  rintro e w' ⟨A, n, c, B, m, k, H, hc, rfl, g1, g2, g3, g4, g5, g6, g7⟩
  have hn : n = 46 := by rw [← g1.len, h3]
  have hm : m = 0 := by have := g3.len; simpa using this.symm
  subst hn hm
  exact ⟨A, c, B, k, H, hc, rfl, ⟨g1, g2, g3, g4, g5, g6, by omega, by omega, by omega⟩, g7⟩
theorem aw3 {EB D0 : LB} (h3 : EB.length = 46) (hok : okL ⟨EB, [], 70, false, -1, 1, D0, true⟩ = true) (a0 a1 a2 : Addr) (A B H : Option Addr) (c k hc : Nat) (w : World) (hI : LogIn w ⟨EB, [], 70, false, -1, 1, D0, true⟩ A 46 c B 0 k H 32 hc) (hS : Std w) (hT : Tabs w) (hE : Sent a0 a1 a2 w) :
    Calls Tryz.prog 8 #[.agg #[Value.slice A 46 c, .slice B 0 k, .int .i64 70, .bool false, .int .i64 (-1), .int .i64 1, .slice H 32 hc, .bool true], .agg #[.int .i64 0, .int .i64 12, .string ⟨#[]⟩, .string ⟨#[]⟩, .slice none 0 0, .bool false]] w fun e w' => ∃ A c B k H hc, e = .returned (.tuple #[.agg #[Value.slice A 46 c, .slice B 0 k, .int .i64 70, .bool false, .int .i64 (-1), .int .i64 1, .slice H 32 hc, .bool true], .int .i64 42]) ∧ LogIn w' ⟨EB, [], 70, false, -1, 1, D0, true⟩ A 46 c B 0 k H 32 hc ∧ Below w.heap.size w w' := by
  have h := awrite_stop EB [] D0 70 (-1) false true 1 ⟨0, 12, [], [], [], false⟩ a0 a1 a2 A 46 c B 0 k H hc none 0 0 w hI hok rfl hS hT hE
  refine h.mono ?_
  rintro e w' ⟨A, n, c, B, m, k, H, hc, rfl, g1, g2, g3, g4, g5, g6, g7⟩
  have hn : n = 46 := by rw [← g1.len, h3]
  have hm : m = 0 := by have := g3.len; simpa using this.symm
  subst hn hm
  exact ⟨A, c, B, k, H, hc, rfl, ⟨g1, g2, g3, g4, g5, g6, by omega, by omega, by omega⟩, g7⟩
/-- Recover with three bytes kept: there are none. -/
theorem aw4 {EB D0 : LB} (h3 : EB.length = 46) (hs : scanB EB = ([rA], D0, 46)) (ho : opP EB 70 (-1) = ⟨EB, [], 70, false, -1, 1, D0, false⟩) (hok : okL ⟨EB, [], 70, false, -1, 1, D0, true⟩ = true) (A B H : Option Addr) (c k hc : Nat) (w : World) (hI : LogIn w ⟨EB, [], 70, false, -1, 1, D0, true⟩ A 46 c B 0 k H 32 hc) (hS : Std w) (hT : Tabs w) :
    Calls Tryz.prog 10 #[.agg #[Value.slice A 46 c, .slice B 0 k, .int .i64 70, .bool false, .int .i64 (-1), .int .i64 1, .slice H 32 hc, .bool true], .int .i64 3] w fun e w' => ∃ A c B k H hc O co l, e = .returned (.tuple #[.agg #[Value.slice A 46 c, .slice B 0 k, .int .i64 70, .bool false, .int .i64 (-1), .int .i64 1, .slice H 32 hc, .bool false], .slice O 1 co, .int .i64 0]) ∧ l.map RV.r = [rA] ∧ OutR w.heap.size w' O 1 co l ∧ Below w.heap.size w w' := by
  have h := arecover_ok ⟨EB, [], 70, false, -1, 1, D0, true⟩ 3 A 46 c B 0 k H 32 hc w hI (by show EB.length + 0 ≤ 9000; omega) hok hS hT
  have e1 : (Lg.s ⟨EB, [], 70, false, -1, 1, D0, true⟩ ++ (Lg.p ⟨EB, [], 70, false, -1, 1, D0, true⟩).take (Dk.kpN (Lg.p ⟨EB, [], 70, false, -1, 1, D0, true⟩).length 3)) = EB := by dsimp only; rw [List.take_nil, List.append_nil]
  rw [e1] at h
  dsimp only at h
  refine h.mono ?_
  rintro e w' ⟨A, n, c, B, m, k, H, hc, O, co, l, rfl, g1, g2, g3, g4⟩
  rw [hs] at g3
  have hl : l.length = 1 := by have := congrArg List.length g3; simpa using this
  rw [ho] at g1 ⊢
  rw [hl] at g2 ⊢
  have hn : n = 46 := by have := g1.rs.len; dsimp only at this; rw [← this, h3]
  have hm : m = 0 := by have := g1.rp.len; simpa using this.symm
  subst hn hm
  exact ⟨A, c, B, k, H, hc, O, co, l, rfl, g3, g2, g4⟩
theorem aw5 {EB D0 : LB} (hs : scanB EB = ([rA], D0, 46)) (hok : okL ⟨EB, [], 70, false, -1, 1, D0, true⟩ = true) (A B H : Option Addr) (c k hc : Nat) (w : World) (hI : LogIn w ⟨EB, [], 70, false, -1, 1, D0, true⟩ A 46 c B 0 k H 32 hc) (hS : Std w) (hT : Tabs w) :
    Calls Tryz.prog 16 #[.agg #[Value.slice A 46 c, .slice B 0 k, .int .i64 70, .bool false, .int .i64 (-1), .int .i64 1, .slice H 32 hc, .bool true]] w fun e w' => ∃ O co, e = .returned (.slice O 1 co) ∧ Below w.heap.size w w' := by
  refine (arecords_any ⟨EB, [], 70, false, -1, 1, D0, true⟩ A 46 c B 0 k H 32 hc w hI hS hT hok).mono ?_
  rintro e w' ⟨O, co, l, rfl, g2, g3, g4⟩
  dsimp only at g3
  rw [hs] at g3
  have hl : l.length = 1 := by have := congrArg List.length g3; simpa using this
  rw [hl]
  exact ⟨O, co, rfl, g4⟩
theorem aw6 {EB D0 : LB} (hok : okL ⟨EB, [], 70, false, -1, 1, D0, false⟩ = true) (A B H : Option Addr) (c k hc : Nat) (w : World) (hI : LogIn w ⟨EB, [], 70, false, -1, 1, D0, false⟩ A 46 c B 0 k H 32 hc) (hS : Std w) (hT : Tabs w) :
    Calls Tryz.prog 14 #[.agg #[Value.slice A 46 c, .slice B 0 k, .int .i64 70, .bool false, .int .i64 (-1), .int .i64 1, .slice H 32 hc, .bool false]] w fun e w' => e = .returned (.bool true) ∧ Below w.heap.size w w' := by
  have h := acheck_any ⟨EB, [], 70, false, -1, 1, D0, false⟩ A 46 c B 0 k H 32 hc w hI hS hT
  rw [hok] at h
  exact h
set_option maxRecDepth 100000 in
set_option maxHeartbeats 8000000 in
theorem heads_any (a0 a1 a2 : Addr) (w : World) (hS : Std w) (hT : Tabs w) (hE : Sent a0 a1 a2 w) :
    Calls Tryz.prog 5 #[] w fun e w' => e = .returned (.bool true) ∧ Below w.heap.size w w' := by
  obtain ⟨EB, D0, f1, f2, f3, f4, f5, f6, f7, f8, f9, f10, f11⟩ := heads_logs
  have XO := hide (fun W h1 h2 => hopen f6 W h1 h2)
  have X1 := hide (fun A B H c k hc W h1 h2 h3 => aw1 f1 f2 f3 f7 A B H c k hc W h1 h2 h3)
  have X2 := hide (fun A B H c k hc W h1 h2 h3 h4 => aw2 (D0 := D0) f3 f10 f8 a0 a1 a2 A B H c k hc W h1 h2 h3 h4)
  have X3 := hide (fun A B H c k hc W h1 h2 h3 h4 => aw3 f3 f9 a0 a1 a2 A B H c k hc W h1 h2 h3 h4)
  have X4 := hide (fun A B H c k hc W h1 h2 h3 => aw4 f3 f5 f11 f9 A B H c k hc W h1 h2 h3)
  have X5 := hide (fun A B H c k hc W h1 h2 h3 => aw5 f5 f9 A B H c k hc W h1 h2 h3)
  have X6 := hide (fun A B H c k hc W h1 h2 h3 => aw6 f8 A B H c k hc W h1 h2 h3)
  have HS := hide hS
  have HT := hide hT
  have HE := hide hE
  have hnew : Dk.newR 70 = .tuple #[.agg #[.slice none 0 0, .slice none 0 0, .int .i64 70, .bool false, .int .i64 (-1)], .int .i64 0] := rfl
  have XN := Dk.rnew_any 70 w
  rw [hnew] at XN
  clear f1 f2 f3 f4 f5 f6 f7 f8 f9 f10 f11 hS hT hE hnew
  have XN := hide XN
  go_enter Tryz.func5, Tryz.ntmps5
  go_wp2_with fail
  with_reducible refine XN.out.mono ?_
  rintro e0 w1 ⟨rfl, hb1⟩
  have hb2 := hb1.alloc hb1.size (.cells #[.slice none 0 0, .slice none 0 0, .int .i64 70, .bool false, .int .i64 (-1)] 24)
  have YO := hide (XO.out _ (HS.out.below hb2) (HT.out.below hb2))
  have HB2 := hide hb2
  clear hb1 hb2 XN XO
  go_wp2_with fail
  refine YO.out.mono ?_
  rintro e1 w2 ⟨A2, c2, B2, k2, H2, hc2, O2, co2, rfl, g1, g2⟩
  have HB3 := hide (below_more HB2.out (Nat.le_refl _) g2)
  have hbw := (below_more HB2.out (Nat.le_refl _) g2).alloc (below_more HB2.out (Nat.le_refl _) g2).size (.cells #[.slice A2 0 c2, .slice B2 0 k2, .int .i64 70, .bool false, .int .i64 (-1), .int .i64 0, .slice H2 32 hc2, .bool false] 26)
  have Y1 := hide (X1.out A2 B2 H2 c2 k2 hc2 _ (g1.below (bl_alloc w2 (.cells #[.slice A2 0 c2, .slice B2 0 k2, .int .i64 70, .bool false, .int .i64 (-1), .int .i64 0, .slice H2 32 hc2, .bool false] 26))) (HS.out.below hbw) (HT.out.below hbw))
  have HBw := hide hbw
  have HK := hide (Blk.new w2 26 #[.slice A2 0 c2, .slice B2 0 k2, .int .i64 70, .bool false, .int .i64 (-1), .int .i64 0, .slice H2 32 hc2, .bool false])
  clear g1 g2 hbw YO HB2 X1
  go_wp2_with fail
  refine Y1.out.mono ?_
  rintro e2 w3 ⟨A3, c3, B3, k3, H3, hc3, rfl, g1, g2⟩
  have HB4 := hide (below_more HBw.out (Nat.le_refl _) g2)
  have hk3 := HK.out.below g2 HK.out.lt
  obtain ⟨g, hg⟩ : ∃ g, w2.heap.size = g := ⟨_, rfl⟩
  rw [hg] at hk3
  have hgw : w.heap.size ≤ g := by rw [← hg]; exact HB3.out.size
  obtain ⟨⟨z0, z1, z2, z3, z4, z5, z6, z7⟩, ⟨y0, y1, y2, y3, y4, y5, y6, y7⟩⟩ := blk8 hk3
  have zl := hk3.lt
  obtain ⟨WE, hWE⟩ : ∃ W, ((((((((w3.setCell ⟨g, 0, none⟩ (.slice A3 46 c3)).setCell ⟨g, 1, none⟩ (.slice B3 0 k3)).setCell ⟨g, 2, none⟩ (.int .i64 70)).setCell ⟨g, 3, none⟩ (.bool false)).setCell ⟨g, 4, none⟩ (.int .i64 (-1))).setCell ⟨g, 5, none⟩ (.int .i64 1)).setCell ⟨g, 6, none⟩ (.slice H3 32 hc3)).setCell ⟨g, 7, none⟩ (.bool false)) = W := ⟨_, rfl⟩
  have HK4 : Hid (Blk WE g 26 #[.slice A3 46 c3, .slice B3 0 k3, .int .i64 70, .bool false, .int .i64 (-1), .int .i64 1, .slice H3 32 hc3, .bool false]) := hide (by rw [← hWE]; exact set_log8 hk3 _ _ _ _ _ _ _ _)
  have hI4 : LogIn WE ⟨EB, [], 70, false, -1, 1, D0, false⟩ A3 46 c3 B3 0 k3 H3 32 hc3 := by rw [← hWE]; exact g1.log8 hk3 _ _ _ _ _ _ _ _
  have hb4 : Below w.heap.size w WE := by rw [← hWE]; exact below8 HB4.out g hgw _ _ _ _ _ _ _ _
  have Y2 := hide (X2.out A3 B3 H3 c3 k3 hc3 WE hI4 (HS.out.below hb4) (HT.out.below hb4) (HE.out.below hb4))
  have HI4 := hide hI4
  have HB5 := hide hb4
  obtain ⟨x0, x1, x2, x3, x4, x5, x6, x7⟩ := HK4.out.eight
  have xl := HK4.out.lt
  have hgs := hide hg
  clear g1 g2 hI4 hb4 hk3 Y1 HB3 HBw HK X2 hg
  rw [hgs.out]
  go_wp2_with fail
  refine Y2.out.mono ?_
  rintro e3 w4 ⟨A4, c4, B4, k4, H4, hc4, rfl, g1, g2⟩
  have hb6 := below_more HB5.out (Nat.le_refl _) g2
  have hal := bl_alloc w4 (.cells #[.slice A4 46 c4, .slice B4 0 k4, .int .i64 70, .bool false, .int .i64 (-1), .int .i64 1, .slice H4 32 hc4, .bool true] 26)
  have hbw := below_more hb6 (Nat.le_refl _) hal
  have HK6 := hide ((HK4.out.below g2 HK4.out.lt).below hal (HK4.out.below g2 HK4.out.lt).lt)
  have HI6 := hide ((HI4.out.below g2).below hal)
  have hI7 := g1.below hal
  have hKk := Blk.new w4 26 #[.slice A4 46 c4, .slice B4 0 k4, .int .i64 70, .bool false, .int .i64 (-1), .int .i64 1, .slice H4 32 hc4, .bool true]
  obtain ⟨WK, hWK⟩ : ∃ W, w4.alloc (.cells #[.slice A4 46 c4, .slice B4 0 k4, .int .i64 70, .bool false, .int .i64 (-1), .int .i64 1, .slice H4 32 hc4, .bool true] 26) = W := ⟨_, rfl⟩
  rw [hWK] at HK6 HI6 hI7 hKk hbw
  have Y3 := hide (X3.out A4 B4 H4 c4 k4 hc4 WK hI7 (HS.out.below hbw) (HT.out.below hbw) (HE.out.below hbw))
  have HI7 := hide hI7
  have HB7 := hide hbw
  have HKk := hide hKk
  obtain ⟨t0, t1, t2, t3, t4, t5, t6, t7⟩ := hKk.eight
  have tl := hKk.lt
  clear g1 g2 hb6 hal hbw hI7 hKk Y2 X3 HB4 HB5 HK4 HI4 x0 x1 x2 x3 x4 x5 x6 x7 xl z0 z1 z2 z3 z4 z5 z6 z7 y0 y1 y2 y3 y4 y5 y6 y7 zl hWE
  go_wp2_with fail
  refine Y3.out.mono ?_
  rintro e4 w5 ⟨A5, c5, B5, k5, H5, hc5, rfl, g1, g2⟩
  have hal := bl_alloc w5 (.cells #[.slice A5 46 c5, .slice B5 0 k5, .int .i64 70, .bool false, .int .i64 (-1), .int .i64 1, .slice H5 32 hc5, .bool true] 26)
  have hb8 := below_more HB7.out (Nat.le_refl _) (below_more g2 (Nat.le_refl _) hal)
  have HK8 := hide ((HK6.out.below g2 HK6.out.lt).below hal (HK6.out.below g2 HK6.out.lt).lt)
  have HI8 := hide ((HI6.out.below g2).below hal)
  have HKk8 := hide ((HKk.out.below g2 HKk.out.lt).below hal (HKk.out.below g2 HKk.out.lt).lt)
  have hIk8 := (HI7.out.below g2).below hal
  obtain ⟨W8, hW8⟩ : ∃ W, w5.alloc (.cells #[.slice A5 46 c5, .slice B5 0 k5, .int .i64 70, .bool false, .int .i64 (-1), .int .i64 1, .slice H5 32 hc5, .bool true] 26) = W := ⟨_, rfl⟩
  rw [hW8] at hb8 HK8 HI8 HKk8 hIk8
  have Y4 := hide (X4.out A4 B4 H4 c4 k4 hc4 W8 hIk8 (HS.out.below hb8) (HT.out.below hb8))
  have HIk8 := hide hIk8
  have HB8 := hide hb8
  obtain ⟨s0, s1, s2, s3, s4, s5, s6, s7⟩ := HKk8.out.eight
  have sl := HKk8.out.lt
  clear g1 g2 hal hb8 hIk8 Y3 X4 HB7 HK6 HI6 HKk HI7 t0 t1 t2 t3 t4 t5 t6 t7 tl hWK
  go_wp2_with fail
  refine Y4.out.mono ?_
  rintro e5 w6 ⟨A6, c6, B6, k6, H6, hc6, O6, co6, l6, rfl, h1, h2, h3⟩
  have hal := bl_alloc w6 (.cells #[.slice A6 46 c6, .slice B6 0 k6, .int .i64 70, .bool false, .int .i64 (-1), .int .i64 1, .slice H6 32 hc6, .bool false] 26)
  have hb9 := below_more HB8.out (Nat.le_refl _) (below_more h3 (Nat.le_refl _) hal)
  have HK9 := hide ((HK8.out.below h3 HK8.out.lt).below hal (HK8.out.below h3 HK8.out.lt).lt)
  have hI9 := (HI8.out.below h3).below hal
  have HKk9 := hide ((HKk8.out.below h3 HKk8.out.lt).below hal (HKk8.out.below h3 HKk8.out.lt).lt)
  have HIk9 := hide ((HIk8.out.below h3).below hal)
  have hrow := (OutR.below h2 hal).row
  obtain ⟨x6, hx6⟩ : ∃ x, l6 = [x] := by
    have hl := congrArg List.length h1
    rw [List.length_map] at hl
    match l6, hl with
    | [x], _ => exact ⟨x, rfl⟩
  subst hx6
  have hxr : x6.r = rA := by simpa using h1
  obtain ⟨g6, o6, rfl, hg6, a0', a1', a2', a3', a4', a5'⟩ := rec_cells hrow.1 (k := 0) (x := x6) rfl
  rw [hxr] at a2'
  have p2' : (w6.alloc (.cells #[.slice A6 46 c6, .slice B6 0 k6, .int .i64 70, .bool false, .int .i64 (-1), .int .i64 1, .slice H6 32 hc6, .bool false] 26)).cell? ⟨g6, o6 + 2, none⟩ = some (.string ⟨#[47, 97]⟩) := by simpa [rA] using a2'
  have r6 : ∀ W, (Instr.indexAt 31 (.slice (some ⟨g6, o6, none⟩) 1 co6) (.int .i64 0)).run Tryz.prog W = .ok (.pointer (some ⟨g6, o6, none⟩)) W := fun W => by simpa using rec_at g6 o6 1 co6 0 0 rfl (by omega) W
  have Y6 := hide (X6.out A3 B3 H3 c3 k3 hc3 _ hI9 (HS.out.below hb9) (HT.out.below hb9))
  have HB9 := hide hb9
  clear s0 s1 s2 s3 s4 s5 s6 s7 sl
  obtain ⟨s0, s1, s2, s3, s4, s5, s6, s7⟩ := HKk9.out.eight
  have sl := HKk9.out.lt
  obtain ⟨u0, u1, u2, u3, u4, u5, u6, u7⟩ := HK9.out.eight
  have ul := HK9.out.lt
  clear h1 h2 h3 hal hb9 hI9 Y4 X6 HB8 HK8 HI8 HKk8 HIk8 hW8 hrow hxr a0' a1' a2' a3' a4' a5'
  go_wp2_with fail
  refine Y6.out.mono ?_
  rintro e6 w7 ⟨rfl, h3⟩
  have hb10 := below_more HB9.out (Nat.le_refl _) h3
  have HB10 := hide hb10
  have Y5 := hide (X5.out A4 B4 H4 c4 k4 hc4 w7 (HIk9.out.below h3) (HS.out.below hb10) (HT.out.below hb10))
  have hkk := HKk9.out.below h3 HKk9.out.lt
  clear s0 s1 s2 s3 s4 s5 s6 s7 sl u0 u1 u2 u3 u4 u5 u6 u7 ul
  obtain ⟨s0, s1, s2, s3, s4, s5, s6, s7⟩ := hkk.eight
  have sl := hkk.lt
  clear h3 hb10 hkk Y6 X5 HB9 HK9 HKk9 HIk9 p2'
  go_wp2_with fail
  refine Y5.out.mono ?_
  rintro e7 w8 ⟨O7, co7, rfl, h3⟩
  have HB11 := hide (below_more HB10.out (Nat.le_refl _) h3)
  clear h3 Y5
  go_wp2_with fail
  go_ret
  exact ⟨rfl, HB11.out⟩
end Go.Proofs.YtbbobffedgcbhaaGreatDoor
