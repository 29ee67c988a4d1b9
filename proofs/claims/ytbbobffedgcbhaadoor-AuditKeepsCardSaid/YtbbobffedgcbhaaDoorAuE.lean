/- errors.Is at a refusal over a sentinel; audit.code. -/
import Derived.Test.YtbbobffedgcbhaaDoorGr
import Derived.WalkKit
import Derived.LaidEql
import Derived.Stop.Asserts
import Derived.RowKitTokens
namespace Go.Proofs.YtbbobffedgcbhaaDoor
open Go.RowKit Go.Extern.Stop Go.Stop Go.Extern
set_option linter.unusedVariables false
theorem isTypeOf (v : Value) (w : World) : (Extern.ReflectliteType.typeOf #[.iface 144 v]).run Tryd.prog w = .ok (.iface 107 (.agg #[.pointer (some ⟨6, 144, none⟩)])) w := by kernel_rfl
def compX : Array Value → Sem Value := Extern.ReflectliteType.method fun t => do Rtype.noPackHeld "Comparable" t; pure (.bool (← typeInfo t).comparable)
theorem isComparable (w : World) : (compX #[.agg #[.pointer (some ⟨6, 144, none⟩)]]).run Tryd.prog w = .ok (.bool true) w := by kernel_rfl
theorem isMethodComparable (v : Value) (w : World) : (Go.method 277 107 v "Comparable").run Tryd.prog w = .ok (91, v) w := by kernel_rfl
theorem isComp : (Tryd.prog.info? 144).map (·.comparable) = some true := by kernel_rfl
theorem isSize : (Tryd.prog.info? 165).map (·.size) = some 1 := by kernel_rfl
theorem noIsE (v : Value) (xT : TypeId) (w : World) : (Instr.typeAssert (.iface 144 v) xT 109 true).run Tryd.prog w = .ok (.tuple #[.nilIface, .bool false]) w := run_typeAssert_lacksB Tryd.underlying109 (by kernel_rfl) (by kernel_rfl) v xT w
theorem noUnwrapE (v : Value) (xT : TypeId) (w : World) : (Instr.typeAssert (.iface 144 v) xT 112 true).run Tryd.prog w = .ok (.tuple #[.nilIface, .bool false]) w := run_typeAssert_lacksB Tryd.underlying112 (by kernel_rfl) (by kernel_rfl) v xT w
theorem noUnwrapsE (v : Value) (xT : TypeId) (w : World) : (Instr.typeAssert (.iface 144 v) xT 114 true).run Tryd.prog w = .ok (.tuple #[.nilIface, .bool false]) w := run_typeAssert_lacksB Tryd.underlying114 (by kernel_rfl) (by kernel_rfl) v xT w
theorem noIsR (v : Value) (xT : TypeId) (w : World) : (Instr.typeAssert (.iface 65 v) xT 109 true).run Tryd.prog w = .ok (.tuple #[.nilIface, .bool false]) w := run_typeAssert_lacksB Tryd.underlying109 (by kernel_rfl) (by kernel_rfl) v xT w
theorem hasUnwrapR (v : Value) (xT : TypeId) (w : World) : (Instr.typeAssert (.iface 65 v) xT 112 true).run Tryd.prog w = .ok (.tuple #[.iface 65 v, .bool true]) w := run_typeAssert_hasB Tryd.underlying112 (by kernel_rfl) v xT w
theorem methodUnwrapR (v : Value) (w : World) : (Go.method 277 65 v "Unwrap").run Tryd.prog w = .ok (87, v) w := by kernel_rfl
theorem unwrap_any (s : ByteArray) (v : Value) (hv : v.oneCell' = true) (w : World) :
    Calls Tryd.prog 87 #[.agg #[.string s, .iface 144 v]] w fun e w' => e = .returned (.iface 144 v) ∧ w.alloc (.cells #[.string s, .iface 144 v] 65) = w' := by
  go_enter Tryd.func87, Tryd.ntmps87
  go_wp2_with fail
  go_ret
  exact ⟨rfl, rfl⟩
/-- errors.Is(refusal{s, x}, y): is x y? -/
theorem is_refusal (s : ByteArray) (a b : Addr) (ca cb : Array Value) (ta tb : TypeId) (w : World) (ha : w.heap[a.block]? = some (.cells ca ta (0, 0))) (hb : w.heap[b.block]? = some (.cells cb tb (0, 0))) (r : Bool) (hr : r = true → a = b) (hr2 : r = false → a ≠ b) :
    Calls Tryd.prog 36 #[.iface 65 (.agg #[.string s, .iface 144 (.pointer (some a))]), .iface 144 (.pointer (some b))] w fun e w' => e = .returned (.bool r) ∧ w.alloc (.cells #[.string s, .iface 144 (.pointer (some a))] 65) = w' := by
  obtain ⟨i, hi, hcmp⟩ := Option.map_eq_some_iff.1 isComp
  obtain ⟨j, hj, hjs⟩ := Option.map_eq_some_iff.1 isSize
  have h8 := @run_callFunc_extern Tryd.prog 50 _ Extern.ReflectliteType.typeOf Tryd.func50 (by kernel_rfl) (by kernel_rfl) (by kernel_rfl) (by kernel_rfl)
  have h32 := @run_callFunc_extern Tryd.prog 91 _ compX Tryd.func91 (by kernel_rfl) (by kernel_rfl) (by kernel_rfl) (by kernel_rfl)
  have tT := isTypeOf
  have cT := isComparable
  have mR := isMethodComparable
  have nE := noIsE
  have uE := noUnwrapE
  have vE := noUnwrapsE
  have nW := noIsR
  have uW := hasUnwrapR
  have mU := methodUnwrapR
  have hty := fun W => run_eql_iface_types (P := Tryd.prog) 65 144 (.agg #[.string s, .iface 144 (.pointer (some a))]) (.pointer (some b)) Tryd.underlying55 (by decide) W
  have hla : (w.alloc (.cells #[.string s, .iface 144 (.pointer (some a))] 65)).heap[a.block]? = some (.cells ca ta (0, 0)) := Blk.below (t := ta) (cs := ca) ha (Below.alloc (Below.refl _ _) (Nat.le_refl _) _) (Blk.lt (t := ta) (cs := ca) ha)
  have hlb : (w.alloc (.cells #[.string s, .iface 144 (.pointer (some a))] 65)).heap[b.block]? = some (.cells cb tb (0, 0)) := Blk.below (t := tb) (cs := cb) hb (Below.alloc (Below.refl _ _) (Nat.le_refl _) _) (Blk.lt (t := tb) (cs := cb) hb)
  cases r with
  | true =>
    obtain rfl := hr rfl
    have heq := run_eql_iface_ptr_same (P := Tryd.prog) (w.alloc (.cells #[.string s, .iface 144 (.pointer (some a))] 65)) a Tryd.underlying55 Tryd.underlying144 hi hcmp hj
    clear hla hlb ha hb hr hr2
    go_enter Tryd.func36, Tryd.ntmps36
    go_wp2
    refine wp_loop_rounds 2 ?_
    rw [rounds_succ]
    go_wp2
    rw [rounds_succ]
    go_wp2
    go_ret
    exact ⟨rfl, rfl⟩
  | false =>
    have heq := run_eql_iface_ptr_other (P := Tryd.prog) (w.alloc (.cells #[.string s, .iface 144 (.pointer (some a))] 65)) Tryd.underlying55 Tryd.underlying144 hi hcmp hj (by rw [hjs]; decide) (hr2 rfl) hla hlb
    clear hla hlb ha hb hr hr2
    go_enter Tryd.func36, Tryd.ntmps36
    go_wp2
    refine wp_loop_rounds 2 ?_
    rw [rounds_succ]
    go_wp2
    rw [rounds_succ]
    go_wp2
    go_ret
    exact ⟨rfl, rfl⟩
end Go.Proofs.YtbbobffedgcbhaaDoor
