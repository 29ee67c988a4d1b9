/- errors.Is at a refusal over a sentinel; audit.code. -/
import Derived.Test.YtbbobffedgcbhaaGreatDoorGr
import Derived.WalkKit
import Derived.LaidEql
import Derived.Stop.Asserts
import Derived.RowKitTokens
namespace Go.Proofs.YtbbobffedgcbhaaGreatDoor
open Go.RowKit Go.Extern.Stop Go.Stop Go.Extern
set_option linter.unusedVariables false
theorem isTypeOf (v : Value) (w : World) : (Extern.ReflectliteType.typeOf #[.iface 172 v]).run Tryz.prog w = .ok (.iface 129 (.agg #[.pointer (some ⟨6, 172, none⟩)])) w := by kernel_rfl
def compX : Array Value → Sem Value := Extern.ReflectliteType.method fun t => do Rtype.noPackHeld "Comparable" t; pure (.bool (← typeInfo t).comparable)
theorem isComparable (w : World) : (compX #[.agg #[.pointer (some ⟨6, 172, none⟩)]]).run Tryz.prog w = .ok (.bool true) w := by kernel_rfl
theorem isMethodComparable (v : Value) (w : World) : (Go.method 305 129 v "Comparable").run Tryz.prog w = .ok (120, v) w := by kernel_rfl
theorem isComp : (Tryz.prog.info? 172).map (·.comparable) = some true := by kernel_rfl
theorem isSize : (Tryz.prog.info? 193).map (·.size) = some 1 := by kernel_rfl
theorem noIsE (v : Value) (xT : TypeId) (w : World) : (Instr.typeAssert (.iface 172 v) xT 131 true).run Tryz.prog w = .ok (.tuple #[.nilIface, .bool false]) w := run_typeAssert_lacksB Tryz.underlying131 (by kernel_rfl) (by kernel_rfl) v xT w
theorem noUnwrapE (v : Value) (xT : TypeId) (w : World) : (Instr.typeAssert (.iface 172 v) xT 134 true).run Tryz.prog w = .ok (.tuple #[.nilIface, .bool false]) w := run_typeAssert_lacksB Tryz.underlying134 (by kernel_rfl) (by kernel_rfl) v xT w
theorem noUnwrapsE (v : Value) (xT : TypeId) (w : World) : (Instr.typeAssert (.iface 172 v) xT 136 true).run Tryz.prog w = .ok (.tuple #[.nilIface, .bool false]) w := run_typeAssert_lacksB Tryz.underlying136 (by kernel_rfl) (by kernel_rfl) v xT w
theorem noIsR (v : Value) (xT : TypeId) (w : World) : (Instr.typeAssert (.iface 67 v) xT 131 true).run Tryz.prog w = .ok (.tuple #[.nilIface, .bool false]) w := run_typeAssert_lacksB Tryz.underlying131 (by kernel_rfl) (by kernel_rfl) v xT w
theorem hasUnwrapR (v : Value) (xT : TypeId) (w : World) : (Instr.typeAssert (.iface 67 v) xT 134 true).run Tryz.prog w = .ok (.tuple #[.iface 67 v, .bool true]) w := run_typeAssert_hasB Tryz.underlying134 (by kernel_rfl) v xT w
theorem methodUnwrapR (v : Value) (w : World) : (Go.method 305 67 v "Unwrap").run Tryz.prog w = .ok (116, v) w := by kernel_rfl
theorem unwrap_any (s : ByteArray) (v : Value) (hv : v.oneCell' = true) (w : World) :
    Calls Tryz.prog 116 #[.agg #[.string s, .iface 172 v]] w fun e w' => e = .returned (.iface 172 v) ∧ w.alloc (.cells #[.string s, .iface 172 v] 67) = w' := by
  go_enter Tryz.func116, Tryz.ntmps116
  go_wp2_with fail
  go_ret
  exact ⟨rfl, rfl⟩
/-- errors.Is(refusal{s, x}, y): is x y? -/
theorem is_refusal (s : ByteArray) (a b : Addr) (ca cb : Array Value) (ta tb : TypeId) (w : World) (ha : w.heap[a.block]? = some (.cells ca ta (0, 0))) (hb : w.heap[b.block]? = some (.cells cb tb (0, 0))) (r : Bool) (hr : r = true → a = b) (hr2 : r = false → a ≠ b) :
    Calls Tryz.prog 49 #[.iface 67 (.agg #[.string s, .iface 172 (.pointer (some a))]), .iface 172 (.pointer (some b))] w fun e w' => e = .returned (.bool r) ∧ w.alloc (.cells #[.string s, .iface 172 (.pointer (some a))] 67) = w' := by
  obtain ⟨i, hi, hcmp⟩ := Option.map_eq_some_iff.1 isComp
  obtain ⟨j, hj, hjs⟩ := Option.map_eq_some_iff.1 isSize
  have h8 := @run_callFunc_extern Tryz.prog 69 _ Extern.ReflectliteType.typeOf Tryz.func69 (by kernel_rfl) (by kernel_rfl) (by kernel_rfl) (by kernel_rfl)
  have h32 := @run_callFunc_extern Tryz.prog 120 _ compX Tryz.func120 (by kernel_rfl) (by kernel_rfl) (by kernel_rfl) (by kernel_rfl)
  have tT := isTypeOf
  have cT := isComparable
  have mR := isMethodComparable
  have nE := noIsE
  have uE := noUnwrapE
  have vE := noUnwrapsE
  have nW := noIsR
  have uW := hasUnwrapR
  have mU := methodUnwrapR
  have hty := fun W => run_eql_iface_types (P := Tryz.prog) 67 172 (.agg #[.string s, .iface 172 (.pointer (some a))]) (.pointer (some b)) Tryz.underlying57 (by decide) W
  have hla : (w.alloc (.cells #[.string s, .iface 172 (.pointer (some a))] 67)).heap[a.block]? = some (.cells ca ta (0, 0)) := Blk.below (t := ta) (cs := ca) ha (Below.alloc (Below.refl _ _) (Nat.le_refl _) _) (Blk.lt (t := ta) (cs := ca) ha)
  have hlb : (w.alloc (.cells #[.string s, .iface 172 (.pointer (some a))] 67)).heap[b.block]? = some (.cells cb tb (0, 0)) := Blk.below (t := tb) (cs := cb) hb (Below.alloc (Below.refl _ _) (Nat.le_refl _) _) (Blk.lt (t := tb) (cs := cb) hb)
  cases r with
  | true =>
    obtain rfl := hr rfl
    have heq := run_eql_iface_ptr_same (P := Tryz.prog) (w.alloc (.cells #[.string s, .iface 172 (.pointer (some a))] 67)) a Tryz.underlying57 Tryz.underlying172 hi hcmp hj
    clear hla hlb ha hb hr hr2
    go_enter Tryz.func49, Tryz.ntmps49
    go_wp2
    refine wp_loop_rounds 2 ?_
    rw [rounds_succ]
    go_wp2
    rw [rounds_succ]
    go_wp2
    go_ret
    exact ⟨rfl, rfl⟩
  | false =>
    have heq := run_eql_iface_ptr_other (P := Tryz.prog) (w.alloc (.cells #[.string s, .iface 172 (.pointer (some a))] 67)) Tryz.underlying57 Tryz.underlying172 hi hcmp hj (by rw [hjs]; decide) (hr2 rfl) hla hlb
    clear hla hlb ha hb hr hr2
    go_enter Tryz.func49, Tryz.ntmps49
    go_wp2
    refine wp_loop_rounds 2 ?_
    rw [rounds_succ]
    go_wp2
    rw [rounds_succ]
    go_wp2
    go_ret
    exact ⟨rfl, rfl⟩
end Go.Proofs.YtbbobffedgcbhaaGreatDoor
