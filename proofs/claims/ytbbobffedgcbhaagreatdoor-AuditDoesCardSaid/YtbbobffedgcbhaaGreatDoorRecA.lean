/- The contracts of proto.Governed, record.validate, code and Check. -/
import Derived.Test.YtbbobffedgcbhaaGreatDoorGr
import Derived.Test.YtbbobffedgcbhaaGreatDoorErrAs
import Derived.Lib.AppendIntMem
import Derived.Lib.LaidTab
namespace Go.Proofs.YtbbobffedgcbhaaGreatDoor
open Go.RowKit
set_option linter.unusedVariables false
def wordL (j : Nat) : LB := match j with | 1 => [111, 112, 101, 110] | 6 => [119, 114, 105, 116, 101] | 7 => [115, 112, 97, 119, 110] | 9 => [99, 104, 100, 105, 114] | 10 => [115, 116, 97, 116] | 11 => [114, 101, 97, 100, 100, 105, 114] | 12 => [117, 110, 108, 105, 110, 107] | 13 => [109, 107, 100, 105, 114] | 14 => [114, 101, 110, 97, 109, 101] | _ => []
def Rec.v (r : Rec) (A : Option Addr) (n c : Nat) : Value := .agg #[.int .i64 r.seq, .int .i64 r.op, .string ⟨r.path.toArray⟩, .string ⟨r.path2.toArray⟩, .slice A n c, .bool r.allow]
def Rec.cs (r : Rec) (A : Option Addr) (n c : Nat) : Array Value := #[.int .i64 r.seq, .int .i64 r.op, .string ⟨r.path.toArray⟩, .string ⟨r.path2.toArray⟩, .slice A n c, .bool r.allow]
set_option maxHeartbeats 2000000 in
theorem gov_any (op : Int) (w : World) : Calls Tryz.prog 82 #[.int .i64 op] w fun e w' => e = .returned (.bool (govP op)) ∧ w = w' := by
  by_cases h1 : op = 1
  · subst h1
    show Calls _ _ _ _ fun e w' => e = .returned (.bool true) ∧ w = w'
    go_enter Tryz.func82, Tryz.ntmps82
    go_wp2_with fail
    go_ret
    exact ⟨rfl, rfl⟩
  · have k1 : (op == 1) = false := beq_eq_false_iff_ne.2 h1
    by_cases h6 : op = 6
    · subst h6
      show Calls _ _ _ _ fun e w' => e = .returned (.bool true) ∧ w = w'
      go_enter Tryz.func82, Tryz.ntmps82
      go_wp2_with fail
      go_ret
      exact ⟨rfl, rfl⟩
    · have k6 : (op == 6) = false := beq_eq_false_iff_ne.2 h6
      by_cases h7 : op = 7
      · subst h7
        show Calls _ _ _ _ fun e w' => e = .returned (.bool true) ∧ w = w'
        go_enter Tryz.func82, Tryz.ntmps82
        go_wp2_with fail
        go_ret
        exact ⟨rfl, rfl⟩
      · have k7 : (op == 7) = false := beq_eq_false_iff_ne.2 h7
        by_cases h9 : op = 9
        · subst h9
          show Calls _ _ _ _ fun e w' => e = .returned (.bool true) ∧ w = w'
          go_enter Tryz.func82, Tryz.ntmps82
          go_wp2_with fail
          go_ret
          exact ⟨rfl, rfl⟩
        · have k9 : (op == 9) = false := beq_eq_false_iff_ne.2 h9
          by_cases h10 : op = 10
          · subst h10
            show Calls _ _ _ _ fun e w' => e = .returned (.bool true) ∧ w = w'
            go_enter Tryz.func82, Tryz.ntmps82
            go_wp2_with fail
            go_ret
            exact ⟨rfl, rfl⟩
          · have k10 : (op == 10) = false := beq_eq_false_iff_ne.2 h10
            by_cases h11 : op = 11
            · subst h11
              show Calls _ _ _ _ fun e w' => e = .returned (.bool true) ∧ w = w'
              go_enter Tryz.func82, Tryz.ntmps82
              go_wp2_with fail
              go_ret
              exact ⟨rfl, rfl⟩
            · have k11 : (op == 11) = false := beq_eq_false_iff_ne.2 h11
              by_cases h12 : op = 12
              · subst h12
                show Calls _ _ _ _ fun e w' => e = .returned (.bool true) ∧ w = w'
                go_enter Tryz.func82, Tryz.ntmps82
                go_wp2_with fail
                go_ret
                exact ⟨rfl, rfl⟩
              · have k12 : (op == 12) = false := beq_eq_false_iff_ne.2 h12
                by_cases h13 : op = 13
                · subst h13
                  show Calls _ _ _ _ fun e w' => e = .returned (.bool true) ∧ w = w'
                  go_enter Tryz.func82, Tryz.ntmps82
                  go_wp2_with fail
                  go_ret
                  exact ⟨rfl, rfl⟩
                · have k13 : (op == 13) = false := beq_eq_false_iff_ne.2 h13
                  by_cases h14 : op = 14
                  · subst h14
                    show Calls _ _ _ _ fun e w' => e = .returned (.bool true) ∧ w = w'
                    go_enter Tryz.func82, Tryz.ntmps82
                    go_wp2_with fail
                    go_ret
                    exact ⟨rfl, rfl⟩
                  · have k14 : (op == 14) = false := beq_eq_false_iff_ne.2 h14
                    have HE : Hid (govP op = false) := hide (by unfold govP; simp [k1, k6, k7, k9, k10, k11, k12, k13, k14])
                    rw [HE.out]
                    clear h1 h6 h7 h9 h10 h11 h12 h13 h14
                    go_enter Tryz.func82, Tryz.ntmps82
                    go_wp2_with fail
                    go_ret
                    exact ⟨rfl, rfl⟩
def errV (b : Bool) (s : LB) : Value := if b = true then .nilIface else .iface 123 (.agg #[.string ⟨s.toArray⟩])
set_option maxRecDepth 100000 in
set_option maxHeartbeats 8000000 in
theorem validate_any (q op : Int) (p p2 d : LB) (al : Bool) (A : Option Addr) (n c : Nat) (hd : d.length = n) (w : World) :
    Calls Tryz.prog 66 #[Rec.v ⟨q, op, p, p2, d, al⟩ A n c] w fun e w' => ∃ s : LB, e = .returned (errV (validP ⟨q, op, p, p2, d, al⟩) s) ∧ Below w.heap.size w w' := by
  unfold Rec.v
  dsimp only
  have XG := hide (fun W => gov_any op W)
  have HB := hide ((Below.refl w.heap.size w).alloc (Nat.le_refl _) (.cells #[.int .i64 q, .int .i64 op, .string ⟨p.toArray⟩, .string ⟨p2.toArray⟩, .slice A n c, .bool al] 28))
  have HD := hide hd
  have HV : Hid (validP ⟨q, op, p, p2, d, al⟩ = (decide (0 ≤ q) && decide (q ≤ 2147483647) && (govP op && (decide (p.length ≤ 256) && (decide (p2.length ≤ 256) && (p2.isEmpty || op == 14) && (if op = 7 then decide (d.length = 32) else decide (d.length = 0))))))) := hide rfl
  clear hd
  obtain ⟨V, hVe⟩ : ∃ V, validP ⟨q, op, p, p2, d, al⟩ = V := ⟨_, rfl⟩
  rw [hVe] at HV ⊢
  clear hVe
  obtain ⟨g, hg⟩ : ∃ g, govP op = g := ⟨_, rfl⟩
  rw [hg] at XG HV
  clear hg
  by_cases h1 : q < 0
  · have HE : Hid (V = false) := hide (by rw [HV.out]; simp; omega)
    clear HV
    go_enter Tryz.func66, Tryz.ntmps66
    go_wp2_with fail
    go_ret
    first | exact ⟨_, by rw [HE.out]; rfl, HB.out⟩ | exact ⟨⟨_, by rw [HE.out]; rfl⟩, HB.out⟩
  by_cases h2 : 2147483647 < q
  · have HE : Hid (V = false) := hide (by rw [HV.out]; simp; omega)
    clear HV
    go_enter Tryz.func66, Tryz.ntmps66
    go_wp2_with fail
    go_ret
    first | exact ⟨_, by rw [HE.out]; rfl, HB.out⟩ | exact ⟨⟨_, by rw [HE.out]; rfl⟩, HB.out⟩
  cases g with
  | false =>
    have HE : Hid (V = false) := hide (by rw [HV.out]; simp)
    clear HV
    go_enter Tryz.func66, Tryz.ntmps66
    go_wp2_with fail
    refine (XG.out _).mono ?_
    rintro e w1 ⟨rfl, rfl⟩
    go_wp2_with fail
    go_ret
    first | exact ⟨_, by rw [HE.out]; rfl, HB.out⟩ | exact ⟨⟨_, by rw [HE.out]; rfl⟩, HB.out⟩
  | true =>
    by_cases h3 : 256 < p.length
    · have k3 : (256 : Int) < (p.length : Int) := by omega
      have HE : Hid (V = false) := hide (by rw [HV.out]; simp; omega)
      clear HV
      go_enter Tryz.func66, Tryz.ntmps66
      go_wp2_with fail
      refine (XG.out _).mono ?_
      rintro e w1 ⟨rfl, rfl⟩
      go_wp2_with fail
      go_ret
      first | exact ⟨_, by rw [HE.out]; rfl, HB.out⟩ | exact ⟨⟨_, by rw [HE.out]; rfl⟩, HB.out⟩
    have k3 : ¬ (256 : Int) < (p.length : Int) := by omega
    by_cases h4 : 256 < p2.length
    · have k4 : (256 : Int) < (p2.length : Int) := by omega
      have HE : Hid (V = false) := hide (by rw [HV.out]; simp; omega)
      clear HV
      go_enter Tryz.func66, Tryz.ntmps66
      go_wp2_with fail
      refine (XG.out _).mono ?_
      rintro e w1 ⟨rfl, rfl⟩
      go_wp2_with fail
      go_ret
      first | exact ⟨_, by rw [HE.out]; rfl, HB.out⟩ | exact ⟨⟨_, by rw [HE.out]; rfl⟩, HB.out⟩
    have k4 : ¬ (256 : Int) < (p2.length : Int) := by omega
    have j1 : decide (0 ≤ q) = true := decide_eq_true (by omega)
    have j2 : decide (q ≤ 2147483647) = true := decide_eq_true (by omega)
    have j3 : decide (p.length ≤ 256) = true := decide_eq_true (by omega)
    have j4 : decide (p2.length ≤ 256) = true := decide_eq_true (by omega)
    rw [j1, j2, j3, j4] at HV
    clear j1 j2 j3 j4
    by_cases o7 : op = 7
    · subst o7
      cases p2 with
      | cons a t =>
        have e1 : ((a :: t : LB) == []) = false := rfl
        have e2 : ((a :: t : LB) != []) = true := rfl
        have HE : Hid (V = false) := hide (by rw [HV.out]; simp)
        clear HV
        go_enter Tryz.func66, Tryz.ntmps66
        go_wp2_with fail
        refine (XG.out _).mono ?_
        rintro e w1 ⟨rfl, rfl⟩
        go_wp2_with fail
        go_ret
        first | exact ⟨_, by rw [HE.out]; rfl, HB.out⟩ | exact ⟨⟨_, by rw [HE.out]; rfl⟩, HB.out⟩
      | nil =>
        by_cases h9 : n = 32
        · subst h9
          have HE : Hid (V = true) := hide (by rw [HV.out]; simp [HD.out])
          clear HV
          go_enter Tryz.func66, Tryz.ntmps66
          go_wp2_with fail
          refine (XG.out _).mono ?_
          rintro e w1 ⟨rfl, rfl⟩
          go_wp2_with fail
          go_ret
          first | exact ⟨[], by rw [HE.out]; rfl, HB.out⟩ | exact ⟨⟨[], by rw [HE.out]; rfl⟩, HB.out⟩
        · have k9 : ((n : Int) == 32) = false := beq_eq_false_iff_ne.2 (by omega)
          have k9b : ((n : Int) != 32) = true := by rw [bne, k9]; rfl
          have HE : Hid (V = false) := hide (by rw [HV.out]; simp [HD.out]; omega)
          clear HV
          go_enter Tryz.func66, Tryz.ntmps66
          go_wp2_with fail
          refine (XG.out _).mono ?_
          rintro e w1 ⟨rfl, rfl⟩
          go_wp2_with fail
          go_ret
          first | exact ⟨_, by rw [HE.out]; rfl, HB.out⟩ | exact ⟨⟨_, by rw [HE.out]; rfl⟩, HB.out⟩
    · have q7 : (op == 7) = false := beq_eq_false_iff_ne.2 o7
      have r7 : (op != 7) = true := by rw [bne, q7]; rfl
      cases p2 with
      | cons a t =>
        have e1 : ((a :: t : LB) == []) = false := rfl
        have e2 : ((a :: t : LB) != []) = true := rfl
        by_cases o14 : op = 14
        · subst o14
          by_cases h9 : n = 0
          · subst h9
            have HE : Hid (V = true) := hide (by rw [HV.out]; simp [HD.out, o7])
            clear HV
            go_enter Tryz.func66, Tryz.ntmps66
            go_wp2_with fail
            refine (XG.out _).mono ?_
            rintro e w1 ⟨rfl, rfl⟩
            go_wp2_with fail
            go_ret
            first | exact ⟨[], by rw [HE.out]; rfl, HB.out⟩ | exact ⟨⟨[], by rw [HE.out]; rfl⟩, HB.out⟩
          · have k9 : ((n : Int) == 0) = false := beq_eq_false_iff_ne.2 (by omega)
            have k9b : ((n : Int) != 0) = true := by rw [bne, k9]; rfl
            have HE : Hid (V = false) := hide (by rw [HV.out]; simp [HD.out, o7]; omega)
            clear HV
            go_enter Tryz.func66, Tryz.ntmps66
            go_wp2_with fail
            refine (XG.out _).mono ?_
            rintro e w1 ⟨rfl, rfl⟩
            go_wp2_with fail
            go_ret
            first | exact ⟨_, by rw [HE.out]; rfl, HB.out⟩ | exact ⟨⟨_, by rw [HE.out]; rfl⟩, HB.out⟩
        · have q14 : (op == 14) = false := beq_eq_false_iff_ne.2 o14
          have r14 : (op != 14) = true := by rw [bne, q14]; rfl
          have HE : Hid (V = false) := hide (by rw [HV.out]; simp [q14])
          clear HV
          go_enter Tryz.func66, Tryz.ntmps66
          go_wp2_with fail
          refine (XG.out _).mono ?_
          rintro e w1 ⟨rfl, rfl⟩
          go_wp2_with fail
          go_ret
          first | exact ⟨_, by rw [HE.out]; rfl, HB.out⟩ | exact ⟨⟨_, by rw [HE.out]; rfl⟩, HB.out⟩
      | nil =>
        by_cases h9 : n = 0
        · subst h9
          have HE : Hid (V = true) := hide (by rw [HV.out]; simp [HD.out, o7])
          clear HV
          go_enter Tryz.func66, Tryz.ntmps66
          go_wp2_with fail
          refine (XG.out _).mono ?_
          rintro e w1 ⟨rfl, rfl⟩
          go_wp2_with fail
          go_ret
          first | exact ⟨[], by rw [HE.out]; rfl, HB.out⟩ | exact ⟨⟨[], by rw [HE.out]; rfl⟩, HB.out⟩
        · have k9 : ((n : Int) == 0) = false := beq_eq_false_iff_ne.2 (by omega)
          have k9b : ((n : Int) != 0) = true := by rw [bne, k9]; rfl
          have HE : Hid (V = false) := hide (by rw [HV.out]; simp [HD.out, o7]; omega)
          clear HV
          go_enter Tryz.func66, Tryz.ntmps66
          go_wp2_with fail
          refine (XG.out _).mono ?_
          rintro e w1 ⟨rfl, rfl⟩
          go_wp2_with fail
          go_ret
          first | exact ⟨_, by rw [HE.out]; rfl, HB.out⟩ | exact ⟨⟨_, by rw [HE.out]; rfl⟩, HB.out⟩
/-- What the library's and the program's variables hold. -/
structure Std (w : World) : Prop where
  et : w.cell? ⟨4, 0, none⟩ = some (.iface 129 (.agg #[.pointer (some ⟨6, 57, none⟩)]))
theorem Std.lt {w : World} (h : Std w) : 4 < w.heap.size := World.block_lt_of_cell? w _ h.et
theorem Std.below {w w' : World} (h : Std w) (hb : Below w.heap.size w w') : Std w' := by
  have hl := h.lt
  constructor
  · exact (hb.cell (by exact hl)).trans h.et
set_option maxHeartbeats 2000000 in
theorem code_nil (w : World) : Calls Tryz.prog 65 #[.nilIface] w fun e w' => e = .returned (.int .i64 0) ∧ Below w.heap.size w w' := by
  have HB := hide ((Below.refl w.heap.size w).alloc (Nat.le_refl _) (.cells #[.string ⟨#[]⟩] 123))
  go_enter Tryz.func65, Tryz.ntmps65
  go_wp2_with fail
  refine (as_nil _ _).mono ?_
  rintro e w1 ⟨rfl, rfl⟩
  go_wp2_with fail
  go_ret
  exact ⟨rfl, HB.out⟩
set_option maxHeartbeats 2000000 in
theorem code_hit (s : LB) (w : World) (hS : Std w) : Calls Tryz.prog 65 #[.iface 123 (.agg #[.string ⟨s.toArray⟩])] w fun e w' => e = .returned (.int .i64 2) ∧ Below w.heap.size w w' := by
  have hb := (Below.refl w.heap.size w).alloc (Nat.le_refl _) (.cells #[.string ⟨#[]⟩] 123)
  have HB := hide hb
  have HS := hide (hS.below hb)
  have hn := Blk.new w 123 #[.string ⟨#[]⟩]
  have X := hide (as_hit ⟨s.toArray⟩ ⟨w.heap.size, 0, none⟩ (.string ⟨#[]⟩) _ HS.out.et (hn.cell 0) (hn.frozen 0) HS.out.lt)
  clear hb hn hS
  go_enter Tryz.func65, Tryz.ntmps65
  go_wp2_with fail
  refine X.out.mono ?_
  rintro e w1 ⟨rfl, hw⟩
  have HB2 : Hid (Below w.heap.size w w1) := hide (by
    rw [hw]
    exact ((((HB.out.alloc (by simp) _).alloc (by simp; omega) _).alloc (by simp; omega) _).alloc (by simp; omega) _).setCell (Nat.le_refl _) _)
  clear hw X
  go_wp2_with fail
  go_ret
  exact ⟨rfl, HB2.out⟩
theorem code_any (b : Bool) (s : LB) (w : World) (hS : Std w) : Calls Tryz.prog 65 #[errV b s] w fun e w' => e = .returned (.int .i64 (if b = true then 0 else 2)) ∧ Below w.heap.size w w' := by
  cases b with
  | true => exact code_nil w
  | false => exact code_hit s w hS
set_option maxHeartbeats 2000000 in
theorem check_any (q op : Int) (p p2 d : LB) (al : Bool) (A : Option Addr) (n c : Nat) (hd : d.length = n) (w : World) (hS : Std w) :
    Calls Tryz.prog 47 #[Rec.v ⟨q, op, p, p2, d, al⟩ A n c] w fun e w' => e = .returned (.bool (validP ⟨q, op, p, p2, d, al⟩)) ∧ Below w.heap.size w w' := by
  have hb := (Below.refl w.heap.size w).alloc (Nat.le_refl _) (.cells #[.int .i64 q, .int .i64 op, .string ⟨p.toArray⟩, .string ⟨p2.toArray⟩, .slice A n c, .bool al] 28)
  have HB := hide hb
  have HS := hide (hS.below hb)
  have XV := hide (fun W => validate_any q op p p2 d al A n c hd W)
  clear hb hS
  generalize validP ⟨q, op, p, p2, d, al⟩ = V at *
  unfold Rec.v at *
  dsimp only at *
  go_enter Tryz.func47, Tryz.ntmps47
  go_wp2_with fail
  refine (XV.out _).mono ?_
  rintro e w1 ⟨s, rfl, hb⟩
  have HB1 := hide (below_more HB.out (Nat.le_refl _) hb)
  have HS1 := hide (HS.out.below hb)
  clear hb XV
  go_wp2_with fail
  refine (code_any V s _ HS1.out).mono ?_
  rintro e w2 ⟨rfl, hb⟩
  have HB2 := hide (below_more HB1.out (Nat.le_refl _) hb)
  clear hb
  cases V with
  | true =>
    go_wp2_with fail
    go_ret
    exact ⟨rfl, HB2.out⟩
  | false =>
    go_wp2_with fail
    go_ret
    exact ⟨rfl, HB2.out⟩
end Go.Proofs.YtbbobffedgcbhaaGreatDoor
