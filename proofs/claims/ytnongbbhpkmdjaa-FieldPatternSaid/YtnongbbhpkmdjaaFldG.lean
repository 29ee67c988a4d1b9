/- The contracts of Pattern, Special and Split. -/
import Derived.Test.YtnongbbhpkmdjaaFldF
namespace Go.Proofs.Ytnongbbhpkmdjaa
open Go.RowKit
set_option linter.unusedVariables false
/-- The pattern that pieces are. -/
def patP (p : Pc) : LB := if p.quoted then quoteP p.text else p.text
def patL (l : List Pc) : LB := (l.map patP).flatten
theorem patL_snoc (l : List Pc) (p : Pc) : patL (l ++ [p]) = patL l ++ patP p := by simp [patL]
theorem patL_take (l : List Pc) (k : Nat) : (patL (l.take k)).length ≤ (patL l).length := by
  unfold patL
  rw [List.map_take]
  exact flat_le _ k
theorem patP_len (p : Pc) : (patP p).length ≤ 2 * p.text.length := by
  unfold patP
  split
  · exact quote_len _
  · omega
theorem patL_len : ∀ l : List Pc, (patL l).length ≤ 2 * (txl l).length
  | [] => by simp [patL]
  | p :: r => by
    have := patL_len r
    have := patP_len p
    simp only [patL, txl, List.map_cons, List.flatten_cons, List.length_append] at *
    omega
theorem txl_mem (l : List Pc) (p : Pc) (h : p ∈ l) : p.text.length ≤ (txl l).length := sum_mem _ _ (List.mem_map.2 ⟨p, h, rfl⟩)
set_option maxHeartbeats 4000000 in
set_option maxRecDepth 100000 in
theorem pattern_any (l : List Pc) (A : Option Addr) (n c : Nat) (w : World) (hR : Reads w w.heap.size 4 A n (pvs l)) (hn : n ≤ 1000000) (hlen : (txl l).length ≤ 50000) :
    Calls Try.prog 14 #[.slice A n c] w fun e w' => e = .returned (.string ⟨(patL l).toArray⟩) ∧ Below w.heap.size w w' := by
  have hpl := patL_len l
  have hll : l.length = n := by have := hR.1; rw [pvs_length] at this; omega
  have HLL := hide hll
  have HR := hide hR
  clear hR hll
  go_enter Try.func14, Try.ntmps14
  go_wp2_with fail
  obtain ⟨b, hb⟩ : ∃ b, w.heap.size = b := ⟨_, rfl⟩
  obtain ⟨W0, hW0⟩ : ∃ W, w.alloc (.cells #[.pointer none, .slice none 0 0] 54) = W := ⟨_, rfl⟩
  have hB0 : Below b w W0 := by rw [← hW0, ← hb]; exact (Below.refl _ _).alloc (Nat.le_refl _) _
  have hI0 : Lib.IsBuilder 54 5 b b (bv []) W0 := .inl ⟨Nat.le_refl _, .slice none 0 0, by
    have := Blk.new w 54 #[.pointer none, .slice none 0 0]
    rw [← hW0, ← hb]; exact this, World.ownsRow_nil _ _ _ _, by simp [Value.ownBlock]⟩
  have HBB := hide hb
  rw [hW0, hb]
  rw [hb] at HR
  have HB0 := hide hB0
  have HI0 := hide hI0
  clear hW0 hb hB0 hI0
  go_loopw [8] (fun u8 wx => ∃ i : Nat, i ≤ n ∧ u8 = .int .i64 i ∧ Hid (Below b w wx) ∧ Hid (Lib.IsBuilder 54 5 b b (bv (patL (l.take i))) wx)) (fun u8 _ => n - (intOf u8).toNat)
  case atStart => exact ⟨0, Nat.zero_le _, rfl, HB0, HI0⟩
  case round =>
    clear HB0 HI0
    obtain ⟨i, hi, rfl, HB, HI⟩ := hrel
    have hbw := ib_lt HI.out
    by_cases hlt : i < n
    · obtain ⟨p, hp⟩ : ∃ p, l[i]? = some p := ⟨_, List.getElem?_eq_getElem (by have := HLL.out; omega)⟩
      have hpt := txl_mem l p (List.mem_of_getElem? hp)
      obtain ⟨g, o, rfl, hg, q0, q1, q2, q3⟩ := pc_cells HR.out hp
      have r0 := (HB.out.cell (p := ⟨g, o + i * 4, none⟩) hg).trans q0
      have r1 := (HB.out.cell (p := ⟨g, o + i * 4 + 1, none⟩) hg).trans q1
      have r2 := (HB.out.cell (p := ⟨g, o + i * 4 + 2, none⟩) hg).trans q2
      have r3 := (HB.out.cell (p := ⟨g, o + i * 4 + 3, none⟩) hg).trans q3
      have hia := fun W => pc_at g o n c i (i : Int) rfl hlt W
      have hlt' : (i : Int) < (n : Int) := by omega
      have HTX : Hid (patL (l.take (i + 1)) = patL (l.take i) ++ patP p) := hide (by rw [take_snoc' hp, patL_snoc])
      have hl1 := patL_take l i
      have hl2 := patL_take l (i + 1)
      have hl3 : (patL (l.take i)).length + (patP p).length ≤ 100000 := by have := congrArg List.length HTX.out; rw [List.length_append] at this; omega
      have HI2 := hide (ib_below HI.out ((Below.refl _ _).alloc (Nat.le_refl _) (.cells #[.string ⟨p.text.toArray⟩, .bool p.quoted, .bool p.soft, .bool p.gap] 35)))
      have XW := hide (fun W h hw => writeString_any b b (patL (l.take i)) (patP p) W h (by omega) hw)
      generalize patL (l.take i) = done at *
      obtain ⟨pt, pq, ps, pg⟩ := p
      dsimp only at r0 r1 r2 r3 HI2 hpt
      clear hp q0 q1 q2 q3
      cases pq with
      | true =>
        have e : patP ⟨pt, true, ps, pg⟩ = quoteP pt := rfl
        rw [e] at XW HTX
        have XQ := hide (fun W => quote_any pt (by omega) W)
        clear e hl3
        go_wp2_with fail
        refine (XQ.out _).mono ?_
        rintro e w0 ⟨rfl, hb0⟩
        have HI4 := hide (ib_below HI2.out hb0)
        have hsz := hb0.size
        have HB4 : Hid (Below b w w0) := hide ((HB.out.alloc (Nat.le_of_lt hbw) _).trans (hb0.mono (by simp; omega)))
        simp at hsz
        clear hb0 HI2 XQ
        go_wp2_with fail
        refine (XW.out _ (by exact HI4.out) (by omega)).mono ?_
        rintro e w1 ⟨rfl, hI3, hb3⟩
        have HI3 : Hid (Lib.IsBuilder 54 5 b b (bv (patL ((l).take (i + 1)))) w1) := hide (by rw [HTX.out]; exact .inr hI3)
        have HB3 : Hid (Below b w w1) := hide (HB4.out.trans hb3)
        clear hI3 hb3
        go_wp2_with fail
        go_roundw
        case rel => exact ⟨i + 1, by omega, by go_num, HB3, HI3⟩
        case measure => simp [intOf]; omega
      | false =>
        have e : patP ⟨pt, false, ps, pg⟩ = pt := rfl
        rw [e] at XW HTX
        clear e hl3
        go_wp2_with fail
        refine (XW.out _ (by exact HI2.out) (by simp; omega)).mono ?_
        rintro e w1 ⟨rfl, hI3, hb3⟩
        have HI3 : Hid (Lib.IsBuilder 54 5 b b (bv (patL ((l).take (i + 1)))) w1) := hide (by rw [HTX.out]; exact .inr hI3)
        have HB3 : Hid (Below b w w1) := hide ((HB.out.alloc (Nat.le_of_lt hbw) _).trans hb3)
        clear hI3 hb3
        go_wp2_with fail
        go_roundw
        case rel => exact ⟨i + 1, by omega, by go_num, HB3, HI3⟩
        case measure => simp [intOf]; omega
    · have hlt' : ¬ (i : Int) < (n : Int) := by omega
      have HI2 : Hid (Lib.IsBuilder 54 5 b b (Lib.byteCells (patL l)) wr) := hide (by
        have := HI.out
        rw [List.take_of_length_le (by have := HLL.out; omega)] at this
        rw [bcells]; exact this)
      go_wp2_with fail
      refine (Any.Builder_String_any Try.lays169 Try.Builder_Extra_169 b b (patL l) wr HI2.out (Nat.le_of_lt hbw)).mono ?_
      rintro e w2 ⟨rfl, hb2⟩
      have HB2 := hide (HB.out.trans hb2)
      clear hb2
      go_wp2_with fail
      go_ret
      exact ⟨rfl, by rw [HBB.out]; exact HB2.out⟩
set_option maxHeartbeats 4000000 in
theorem fspecial_any (l : List Pc) (A : Option Addr) (n c : Nat) (w : World) (hR : Reads w w.heap.size 4 A n (pvs l)) (hn : n ≤ 1000000) (hlen : (txl l).length ≤ 50000) :
    Calls Try.prog 16 #[.slice A n c] w fun e w' => e = .returned (.bool (specialP (patL l))) ∧ Below w.heap.size w w' := by
  have hpl := patL_len l
  have XP := hide (pattern_any l A n c w hR hn hlen)
  have XS := hide (fun W => special_any (patL l) (by omega) W)
  clear hR
  go_enter Try.func16, Try.ntmps16
  go_wp2_with fail
  refine XP.out.mono ?_
  rintro e w1 ⟨rfl, hb1⟩
  have HB1 := hide hb1
  clear hb1
  go_wp2_with fail
  refine (XS.out _).mono ?_
  rintro e w2 ⟨rfl, hb2⟩
  have HB2 : Hid (Below w.heap.size w w2) := hide (below_more HB1.out (Nat.le_refl _) hb2)
  clear hb2
  go_wp2_with fail
  go_ret
  exact ⟨rfl, HB2.out⟩
/-- The splitter behind some pieces. -/
def runC (ifs : LB) : List Pc → Bool → CS → CS
  | [], _, s => s
  | p :: r, f, s => runC ifs r false (s.piece ifs f p)
theorem split_run (ifs : LB) : ∀ (l : List Pc) (f : Bool) (s : CS), splitC ifs l f s = (runC ifs l f s).close
  | [], f, s => rfl
  | p :: r, f, s => split_run ifs r false _
theorem run_snoc (ifs : LB) (p : Pc) : ∀ (l : List Pc) (f : Bool) (s : CS), runC ifs (l ++ [p]) f s = (runC ifs l f s).piece ifs (f && l.isEmpty) p
  | [], f, s => by simp [runC]
  | q :: r, f, s => by
    show runC ifs (r ++ [p]) false (s.piece ifs f q) = _
    rw [run_snoc ifs p r]
    simp [runC]
theorem Le.run (ifs : LB) : ∀ (l : List Pc) (f : Bool) {s : CS} {K : Nat}, s.Le K → (runC ifs l f s).Le (K + (l.map (fun p => 5 + 2 * p.text.length)).sum)
  | [], f, s, K, h => h.up (by simp)
  | p :: r, f, s, K, h => by
    unfold runC
    exact (Le.run ifs r false (Le.piece h ifs f p)).up (by simp; omega)
theorem sum_len : ∀ l : List Pc, (l.map (fun p => 5 + 2 * p.text.length)).sum = 5 * l.length + 2 * (txl l).length
  | [] => by simp [txl]
  | p :: r => by
    have := sum_len r
    simp only [txl, List.map_cons, List.sum_cons, List.flatten_cons, List.length_append, List.length_cons] at *
    omega
theorem run_le (ifs : LB) (l : List Pc) (k : Nat) (hn : l.length ≤ 10000) (ht : (txl l).length ≤ 20000) : (runC ifs (l.take k) true CS0).Le 100000 := by
  have h0 : CS0.Le 0 := ⟨by simp [CS0], by simp [CS0], by simp [CS0], by simp [CS0], by simp [CS0]⟩
  refine (Le.run ifs (l.take k) true h0).up ?_
  rw [sum_len]
  have := txl_take l k
  have := List.length_take_le k l
  have := List.length_take_le' k l
  omega
theorem SS.spec {B : Nat} {w : World} {g : Nat} {ifs : LB} {s : CS} {h : Hd} {Y : Option (Nat × Array Value)} (H : SS B w g ifs Y s h) (p : Pc) :
    SS B (w.alloc (.cells #[.string ⟨p.text.toArray⟩, .bool p.quoted, .bool p.soft, .bool p.gap] 35)) g ifs (some (w.heap.size, #[.string ⟨p.text.toArray⟩, .bool p.quoted, .bool p.soft, .bool p.gap])) s h := by
  have H1 := H.alloc (.cells #[.string ⟨p.text.toArray⟩, .bool p.quoted, .bool p.soft, .bool p.gap] 35)
  refine ⟨H1.blk, H1.km, H1.fo, H1.go, H1.po, H1.to, H1.hg, H1.hm, fun x c e => ?_⟩
  injection e with e
  injection e with e1 e2
  subst e1 e2
  refine ⟨Blk.new w 35 _, fun he => ?_⟩
  have := (World.ownsRow.lt H.po _ he.symm).2
  omega
theorem SS.forget {B : Nat} {w : World} {g : Nat} {ifs : LB} {s : CS} {h : Hd} {Y : Option (Nat × Array Value)} (H : SS B w g ifs Y s h) : SS B w g ifs none s h :=
  ⟨H.blk, H.km, H.fo, H.go, H.po, H.to, H.hg, H.hm, fun x c e => by cases e⟩
theorem SAt.forget {B : Nat} {w : World} {g : Nat} {ifs : LB} {s : CS} {Y : Option (Nat × Array Value)} (H : SAt B w g ifs Y s) : SAt B w g ifs none s := by
  obtain ⟨h, H⟩ := H; exact ⟨h, H.forget⟩
theorem SAt.box {B : Nat} {w : World} {g : Nat} {ifs : LB} {s : CS} {x : Nat} {c : Array Value} (H : SAt B w g ifs (some (x, c)) s) : Blk w x 35 c := by
  obtain ⟨h, H⟩ := H; exact (H.ob x c rfl).1
theorem Blk.four {w : World} {g : Nat} {t : TypeId} {x y z u : Value} (h : Blk w g t #[x, y, z, u]) :
    (w.cell? ⟨g, 0, none⟩ = some x ∧ w.cell? ⟨g, 1, none⟩ = some y ∧ w.cell? ⟨g, 2, none⟩ = some z ∧ w.cell? ⟨g, 3, none⟩ = some u) ∧ w.frozen? ⟨g, 0, none⟩ = false ∧ w.frozen? ⟨g, 1, none⟩ = false ∧ w.frozen? ⟨g, 2, none⟩ = false ∧ w.frozen? ⟨g, 3, none⟩ = false :=
  ⟨⟨h.cell 0, h.cell 1, h.cell 2, h.cell 3⟩, h.frozen 0, h.frozen 1, h.frozen 2, h.frozen 3⟩
/-- What Split leaves. -/
def Fields (B : Nat) (w : World) (v : Value) (fs : List Fd) : Prop := ∃ A n c, v = .slice A n c ∧ Fo B w A n c fs none
def SplitRet (w : World) (fs : List Fd) (e : Ending) (w' : World) : Prop := ∃ A n c, e = .returned (.slice A n c) ∧ Fo w.heap.size w' A n c fs none ∧ Below w.heap.size w w'
theorem SS0 (w w1 : World) (ifs : LB) (n : Nat) (hk : KMap w1 w.heap.size n ifs) (hb : w.heap.size ≤ w1.heap.size) :
    SS w.heap.size (w1.alloc (.cells #[.map (some w.heap.size), .slice none 0 0, .slice none 0 0, .slice none 0 0, .slice none 0 0, .bool false, .bool false, .int .i64 0] 43)) w1.heap.size ifs none CS0 ⟨w.heap.size, n, none, 0, 0, none, 0, 0, none, 0, 0, none, 0, 0⟩ :=
  ⟨Blk.new w1 43 _, hk.kept (Below.heap_alloc w1 _ _ hk.lt), ⟨[], World.ownsRow_nil _ _ _ _, FdRow.nil _, fun u h => by cases h⟩, World.ownsRow_nil _ _ _ _, World.ownsRow_nil _ _ _ _, World.ownsRow_nil _ _ _ _, hb, Nat.le_refl _, fun x c e => by cases e⟩
set_option maxHeartbeats 16000000 in
set_option maxRecDepth 100000 in
theorem split_any (l : List Pc) (ifs : LB) (A : Option Addr) (n c : Nat) (w : World) (hR : Reads w w.heap.size 4 A n (pvs l)) (hn : n ≤ 10000) (hlen : (txl l).length ≤ 20000) (hif : ifs.length ≤ 1000) :
    Calls Try.prog 9 #[.slice A n c, .string ⟨ifs.toArray⟩] w (SplitRet w (splitP ifs l)) := by
  have hll : l.length = n := by have := hR.1; rw [pvs_length] at this; omega
  have HLL := hide hll
  have HR := hide hR
  have XK := hide (kinds_any ifs hif w)
  have hle : ∀ k, (runC ifs (l.take k) true CS0).Le 100000 := fun k => run_le ifs l k (by omega) hlen
  have HLE := hide hle
  clear hR hll hle
  go_enter Try.func9, Try.ntmps9
  go_wp2_with fail
  refine XK.out.mono ?_
  rintro e w1 ⟨rfl, hk1, hb1⟩
  have HS0 := hide (SS0 w w1 ifs _ hk1 hb1.size)
  have hbz := hb1.size
  have HB1 := hide (hb1.alloc hb1.size (.cells #[.map (some w.heap.size), .slice none 0 0, .slice none 0 0, .slice none 0 0, .slice none 0 0, .bool false, .bool false, .int .i64 0] 43))
  clear hk1 hb1 XK
  go_wp2_with fail
  obtain ⟨g, hgE⟩ : ∃ g, w1.heap.size = g := ⟨_, rfl⟩
  obtain ⟨W0, hW0⟩ : ∃ W, w1.alloc (.cells #[.map (some w.heap.size), .slice none 0 0, .slice none 0 0, .slice none 0 0, .slice none 0 0, .bool false, .bool false, .int .i64 0] 43) = W := ⟨_, rfl⟩
  obtain ⟨B, hBE⟩ : ∃ B, w.heap.size = B := ⟨_, rfl⟩
  have hW0' := hW0
  rw [hBE] at hW0'
  (try rw [hW0'])
  (try rw [hW0])
  rw [hW0, hgE, hBE] at HS0
  rw [hW0, hBE] at HB1
  rw [hBE] at HR hbz
  (try rw [hgE])
  rw [hgE] at hbz
  have HBE := hide hBE
  clear hW0 hW0' hgE hBE w1
  go_loopw [13] (fun u13 wx => ∃ i : Nat, i ≤ n ∧ u13 = .int .i64 i ∧ Hid (Below B w wx) ∧ Hid (SAt B wx g ifs none (runC ifs (l.take i) true CS0))) (fun u13 _ => n - (intOf u13).toNat)
  case atStart => exact ⟨0, Nat.zero_le _, rfl, HB1, hide ⟨_, HS0.out⟩⟩
  case round =>
    clear HB1 HS0
    obtain ⟨i, hi, rfl, HB, HS⟩ := hrel
    have hbw : B ≤ wr.heap.size := by
      obtain ⟨h, H⟩ := HS.out
      have := H.lt; have := H.hg; omega
    have hgw : g < wr.heap.size := by
      obtain ⟨h, H⟩ := HS.out
      exact H.lt
    by_cases hlt : i < n
    · obtain ⟨p, hp⟩ : ∃ p, l[i]? = some p := ⟨_, List.getElem?_eq_getElem (by have := HLL.out; omega)⟩
      have hpt := txl_mem l p (List.mem_of_getElem? hp)
      obtain ⟨g1, o, rfl, hg, q0, q1, q2, q3⟩ := pc_cells HR.out hp
      have r0 := (HB.out.cell (p := ⟨g1, o + i * 4, none⟩) hg).trans q0
      have r1 := (HB.out.cell (p := ⟨g1, o + i * 4 + 1, none⟩) hg).trans q1
      have r2 := (HB.out.cell (p := ⟨g1, o + i * 4 + 2, none⟩) hg).trans q2
      have r3 := (HB.out.cell (p := ⟨g1, o + i * 4 + 3, none⟩) hg).trans q3
      have hia := fun W => pc_at g1 o n c i (i : Int) rfl hlt W
      have hlt' : (i : Int) < (n : Int) := by omega
      have HTX : Hid (runC ifs (l.take (i + 1)) true CS0 = (runC ifs (l.take i) true CS0).piece ifs (i == 0) p) := hide (by
        rw [take_snoc' hp, run_snoc]
        congr 1
        cases i with
        | zero => simp
        | succ i =>
          cases l with
          | nil => simp at hp
          | cons a b => simp)
      have hL := HLE.out i
      obtain ⟨s, hs⟩ : ∃ s, runC ifs (l.take i) true CS0 = s := ⟨_, rfl⟩
      rw [hs] at HTX hL HS
      have hb0 : ((i : Int) == 0) = (i == 0) := by
        rw [Bool.eq_iff_iff, beq_iff_eq, beq_iff_eq]; omega
      obtain ⟨pt, pq, ps, pg⟩ := p
      dsimp only at r0 r1 r2 r3 hpt
      have hsp : SAt B (wr.alloc (.cells #[.string ⟨pt.toArray⟩, .bool pq, .bool ps, .bool pg] 35)) g ifs (some (wr.heap.size, #[.string ⟨pt.toArray⟩, .bool pq, .bool ps, .bool pg])) s := by
        obtain ⟨h, H⟩ := HS.out
        exact ⟨h, H.spec ⟨pt, pq, ps, pg⟩⟩
      have HBA : Hid (Below B w (wr.alloc (.cells #[.string ⟨pt.toArray⟩, .bool pq, .bool ps, .bool pg] 35))) := hide (HB.out.alloc hbw _)
      have HSP := hide hsp
      have HL := hide hL
      clear hp q0 q1 q2 q3 hs hsp hL
      obtain ⟨ff, hff⟩ : ∃ ff, (i == 0) = ff := ⟨_, rfl⟩
      rw [hff] at HTX hb0
      clear hff
      cases pg with
      | false =>
        cases pq with
        | true =>
          go_wp2_with fail
          refine (quoted_any B g ifs pt s _ (HL.out.up (by omega)) (by omega) (by first | omega | (simp; omega)) (by exact HSP.out)).mono ?_
          rintro e w5 ⟨rfl, hS5, hb5⟩
          have HS5 : Hid (SAt B w5 g ifs none (runC ifs (l.take (i + 1)) true CS0)) := hide (by rw [HTX.out]; exact hS5.forget)
          have HB5 : Hid (Below B w w5) := hide (HBA.out.trans hb5)
          clear hS5 hb5
          go_wp2_with fail
          go_roundw
          case rel => exact ⟨i + 1, by omega, by go_num, HB5, HS5⟩
          case measure => simp [intOf]; omega
        | false =>
          cases ps with
          | true =>
            go_wp2_with fail
            refine (soft_any B g ifs pt s _ (HL.out.up (by omega)) (by omega) (by first | omega | (simp; omega)) (by exact HSP.out)).mono ?_
            rintro e w5 ⟨rfl, hS5, hb5⟩
            have HS5 : Hid (SAt B w5 g ifs none (runC ifs (l.take (i + 1)) true CS0)) := hide (by rw [HTX.out]; exact hS5.forget)
            have HB5 : Hid (Below B w w5) := hide (HBA.out.trans hb5)
            clear hS5 hb5
            go_wp2_with fail
            go_roundw
            case rel => exact ⟨i + 1, by omega, by go_num, HB5, HS5⟩
            case measure => simp [intOf]; omega
          | false =>
            go_wp2_with fail
            refine (plain_any B g ifs pt s _ (HL.out.up (by omega)) (by omega) (by first | omega | (simp; omega)) (by exact HSP.out)).mono ?_
            rintro e w5 ⟨rfl, hS5, hb5⟩
            have HS5 : Hid (SAt B w5 g ifs none (runC ifs (l.take (i + 1)) true CS0)) := hide (by rw [HTX.out]; exact hS5.forget)
            have HB5 : Hid (Below B w w5) := hide (HBA.out.trans hb5)
            clear hS5 hb5
            go_wp2_with fail
            go_roundw
            case rel => exact ⟨i + 1, by omega, by go_num, HB5, HS5⟩
            case measure => simp [intOf]; omega
      | true =>
        have XG := hide (fun W hB h => gap_any (X := some (wr.heap.size, #[.string ⟨pt.toArray⟩, .bool pq, .bool ps, .bool true])) B g ifs ff s W (HL.out.up (by omega)) hB h)
        have HL2 := hide (Le.gap HL.out ff)
        replace HTX : Hid (runC ifs (l.take (i + 1)) true CS0 = (s.gap ff).piece ifs ff ⟨pt, pq, ps, false⟩) := hide HTX.out
        obtain ⟨s2, hs2⟩ : ∃ s2, s.gap ff = s2 := ⟨_, rfl⟩
        rw [hs2] at XG HL2 HTX
        clear hs2
        go_wp2_with fail
        refine (XG.out _ (by first | omega | (simp; omega)) (by exact HSP.out)).mono ?_
        rintro e w3 ⟨rfl, hS3, hb3⟩
        have HS3 := hide hS3
        have HB3 : Hid (Below B w w3) := hide (HBA.out.trans hb3)
        have hbw3 : B ≤ w3.heap.size := by have := hb3.size; simp at this; omega
        obtain ⟨⟨x0, x1, x2, x3⟩, y0, y1, y2, y3⟩ := hS3.box.four
        have hxl := hS3.box.lt
        clear hS3 hb3 HSP HBA XG
        cases pq with
        | true =>
          go_wp2_with fail
          refine (quoted_any B g ifs pt s2 _ (HL2.out.up (by omega)) (by omega) (by first | omega | (simp; omega)) (by exact HS3.out)).mono ?_
          rintro e w5 ⟨rfl, hS5, hb5⟩
          have HS5 : Hid (SAt B w5 g ifs none (runC ifs (l.take (i + 1)) true CS0)) := hide (by rw [HTX.out]; exact hS5.forget)
          have HB5 : Hid (Below B w w5) := hide (HB3.out.trans hb5)
          clear hS5 hb5
          go_wp2_with fail
          go_roundw
          case rel => exact ⟨i + 1, by omega, by go_num, HB5, HS5⟩
          case measure => simp [intOf]; omega
        | false =>
          cases ps with
          | true =>
            go_wp2_with fail
            refine (soft_any B g ifs pt s2 _ (HL2.out.up (by omega)) (by omega) (by first | omega | (simp; omega)) (by exact HS3.out)).mono ?_
            rintro e w5 ⟨rfl, hS5, hb5⟩
            have HS5 : Hid (SAt B w5 g ifs none (runC ifs (l.take (i + 1)) true CS0)) := hide (by rw [HTX.out]; exact hS5.forget)
            have HB5 : Hid (Below B w w5) := hide (HB3.out.trans hb5)
            clear hS5 hb5
            go_wp2_with fail
            go_roundw
            case rel => exact ⟨i + 1, by omega, by go_num, HB5, HS5⟩
            case measure => simp [intOf]; omega
          | false =>
            go_wp2_with fail
            refine (plain_any B g ifs pt s2 _ (HL2.out.up (by omega)) (by omega) (by first | omega | (simp; omega)) (by exact HS3.out)).mono ?_
            rintro e w5 ⟨rfl, hS5, hb5⟩
            have HS5 : Hid (SAt B w5 g ifs none (runC ifs (l.take (i + 1)) true CS0)) := hide (by rw [HTX.out]; exact hS5.forget)
            have HB5 : Hid (Below B w w5) := hide (HB3.out.trans hb5)
            clear hS5 hb5
            go_wp2_with fail
            go_roundw
            case rel => exact ⟨i + 1, by omega, by go_num, HB5, HS5⟩
            case measure => simp [intOf]; omega
    · have hlt' : ¬ (i : Int) < (n : Int) := by omega
      have HE : Hid (splitP ifs l = (runC ifs (l.take i) true CS0).close.fields) := hide (by
        rw [List.take_of_length_le (by have := HLL.out; omega)]
        unfold splitP
        rw [split_run])
      have XC := hide (close_any B g ifs (runC ifs (l.take i) true CS0) wr ((HLE.out i).up (by omega)) hbw HS.out)
      generalize runC ifs (l.take i) true CS0 = s at *
      obtain ⟨s2, hs2⟩ : ∃ s2, s.close = s2 := ⟨_, rfl⟩
      rw [hs2] at XC HE
      clear hs2
      go_wp2_with fail
      refine XC.out.mono ?_
      rintro e w2 ⟨rfl, hS2, hb2⟩
      have HB2 : Hid (Below B w w2) := hide (HB.out.trans hb2)
      obtain ⟨h, H⟩ := hS2
      obtain ⟨⟨c0, c1, c2, c3, c4, c5, c6, c7⟩, f0, f1, f2, f3, f4, f5, f6, f7⟩ := H.blk.eight
      have HFO : Hid (Fo B w2 h.F h.nf h.cf s2.fields none) := hide (by
        obtain ⟨vs, a, b, d⟩ := H.fo
        exact ⟨vs, a, b, d.some_none⟩)
      have hgl := H.lt
      clear H hb2 HS XC
      go_wp2_with fail
      go_ret
      refine ⟨h.F, h.nf, h.cf, rfl, ?_, ?_⟩
      · rw [HE.out, HBE.out]; exact HFO.out
      · rw [HBE.out]; exact HB2.out
end Go.Proofs.Ytnongbbhpkmdjaa
