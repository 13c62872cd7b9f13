/-
  errors.Is and errors.As by contracts, at the program's sentinels and at its own type violation.
-/
import Derived.Test.YtokcinhopajniaaGreatDoorProg
import Derived.WalkKit
import Derived.LaidEql
import Derived.Stop.Asserts
import Derived.RowKitTokens
namespace Go.Proofs.YtokcinhopajniaaGreatDoor
open Go.RowKit Go.Extern.Stop Go.Stop Go.Extern

theorem errTypeOf (v : Value) (w : World) : (Extern.ReflectliteType.typeOf #[.iface 245 v]).run Tryz.prog w = .ok (.iface 160 (.agg #[.pointer (some ⟨4, 245, none⟩)])) w := by kernel_rfl
theorem errComparable (w : World) : ((Extern.ReflectliteType.method fun t => do Extern.Rtype.noPackHeld "Comparable" t; (fun a => Value.bool a.comparable) <$> typeInfo t) #[.agg #[.pointer (some ⟨4, 245, none⟩)]]).run Tryz.prog w = .ok (.bool true) w := by kernel_rfl
theorem errMethodComparable (v : Value) (w : World) : (Go.method 378 160 v "Comparable").run Tryz.prog w = .ok (244, v) w := by kernel_rfl
theorem errIsComp : (Tryz.prog.info? 245).map (·.comparable) = some true := by kernel_rfl
theorem errIsSize : (Tryz.prog.info? 266).map (·.size) = some 1 := by kernel_rfl
theorem errNoIsE (v : Value) (xT : TypeId) (w : World) : (Instr.typeAssert (.iface 245 v) xT 162 true).run Tryz.prog w = .ok (.tuple #[.nilIface, .bool false]) w := run_typeAssert_lacksB Tryz.underlying162 (by kernel_rfl) (by kernel_rfl) v xT w
theorem errNoUnwrapE (v : Value) (xT : TypeId) (w : World) : (Instr.typeAssert (.iface 245 v) xT 165 true).run Tryz.prog w = .ok (.tuple #[.nilIface, .bool false]) w := run_typeAssert_lacksB Tryz.underlying165 (by kernel_rfl) (by kernel_rfl) v xT w
theorem errNoUnwrapsE (v : Value) (xT : TypeId) (w : World) : (Instr.typeAssert (.iface 245 v) xT 167 true).run Tryz.prog w = .ok (.tuple #[.nilIface, .bool false]) w := run_typeAssert_lacksB Tryz.underlying167 (by kernel_rfl) (by kernel_rfl) v xT w
theorem errNoIsV (v : Value) (xT : TypeId) (w : World) : (Instr.typeAssert (.iface 77 v) xT 162 true).run Tryz.prog w = .ok (.tuple #[.nilIface, .bool false]) w := run_typeAssert_lacksB Tryz.underlying162 (by kernel_rfl) (by kernel_rfl) v xT w
theorem errHasUnwrapV (v : Value) (xT : TypeId) (w : World) : (Instr.typeAssert (.iface 77 v) xT 165 true).run Tryz.prog w = .ok (.tuple #[.iface 77 v, .bool true]) w := run_typeAssert_hasB Tryz.underlying165 (by kernel_rfl) v xT w
theorem errMethodUnwrap (v : Value) (w : World) : (Go.method 378 77 v "Unwrap").run Tryz.prog w = .ok (238, v) w := by kernel_rfl

/-- errors.Is(x, x), x a sentinel. -/
theorem is_same (a : Addr) (w : World) :
    Calls Tryz.prog 45 #[.iface 245 (.pointer (some a)), .iface 245 (.pointer (some a))] w fun e w' => e = .returned (.bool true) ∧ w' = w := by
  obtain ⟨i, hi, hcmp⟩ := Option.map_eq_some_iff.1 errIsComp
  obtain ⟨j, hj, hjs⟩ := Option.map_eq_some_iff.1 errIsSize
  have h8 := @run_callFunc_extern Tryz.prog 87 _ (Extern.ReflectliteType.typeOf) Tryz.func87 (by kernel_rfl) (by kernel_rfl) (by kernel_rfl) (by kernel_rfl)
  have h32 := @run_callFunc_extern Tryz.prog 244 _ (Extern.ReflectliteType.method fun t => do Extern.Rtype.noPackHeld "Comparable" t; pure (.bool (← typeInfo t).comparable)) Tryz.func244 (by kernel_rfl) (by kernel_rfl) (by kernel_rfl) (by kernel_rfl)
  have tT := errTypeOf
  have cT := errComparable
  have mR := errMethodComparable
  have heq := run_eql_iface_ptr_same (P := Tryz.prog) w a Tryz.underlying75 Tryz.underlying245 hi hcmp hj
  go_enter Tryz.func45, Tryz.ntmps45
  go_wp2
  refine wp_loop_rounds 1 ?_
  rw [rounds_succ]
  go_wp2
  go_ret
  exact ⟨rfl, rfl⟩

/-- errors.Is(nil, x). -/
theorem is_nil (b : Addr) (w : World) :
    Calls Tryz.prog 45 #[.nilIface, .iface 245 (.pointer (some b))] w fun e w' => e = .returned (.bool false) ∧ w' = w := by
  have hn := run_eql_iface_nil_left (P := Tryz.prog) w 245 (.pointer (some b)) Tryz.underlying75
  go_enter Tryz.func45, Tryz.ntmps45
  go_wp2
  go_ret
  exact ⟨rfl, rfl⟩

/-- errors.Is(x, y), two different sentinels. -/
theorem is_other (a b : Addr) (ca cb : Array Value) (ta tb : TypeId) (w : World) (hne : a ≠ b) (ha : w.heap[a.block]? = some (.cells ca ta (0, 0))) (hb : w.heap[b.block]? = some (.cells cb tb (0, 0))) :
    Calls Tryz.prog 45 #[.iface 245 (.pointer (some a)), .iface 245 (.pointer (some b))] w fun e w' => e = .returned (.bool false) ∧ w' = w := by
  obtain ⟨i, hi, hcmp⟩ := Option.map_eq_some_iff.1 errIsComp
  obtain ⟨j, hj, hjs⟩ := Option.map_eq_some_iff.1 errIsSize
  have h8 := @run_callFunc_extern Tryz.prog 87 _ (Extern.ReflectliteType.typeOf) Tryz.func87 (by kernel_rfl) (by kernel_rfl) (by kernel_rfl) (by kernel_rfl)
  have h32 := @run_callFunc_extern Tryz.prog 244 _ (Extern.ReflectliteType.method fun t => do Extern.Rtype.noPackHeld "Comparable" t; pure (.bool (← typeInfo t).comparable)) Tryz.func244 (by kernel_rfl) (by kernel_rfl) (by kernel_rfl) (by kernel_rfl)
  have tT := errTypeOf
  have cT := errComparable
  have mR := errMethodComparable
  have nE := errNoIsE
  have uE := errNoUnwrapE
  have vE := errNoUnwrapsE
  have nW := errNoIsV
  have uW := errHasUnwrapV
  have mU := errMethodUnwrap
  have heq := run_eql_iface_ptr_other (P := Tryz.prog) w Tryz.underlying75 Tryz.underlying245 hi hcmp hj (by rw [hjs]; decide) hne ha hb
  go_enter Tryz.func45, Tryz.ntmps45
  go_wp2
  refine wp_loop_rounds 1 ?_
  rw [rounds_succ]
  go_wp2
  go_ret
  exact ⟨rfl, rfl⟩

/-- errors.Is(v, x), v a violation of x itself. -/
theorem is_viol_same (g : Nat) (b : Addr) (w : World) (h1 : w.cell? ⟨g, 0, none⟩ = some (.iface 245 (.pointer (some b)))) :
    Calls Tryz.prog 45 #[.iface 77 (.pointer (some ⟨g, 0, none⟩)), .iface 245 (.pointer (some b))] w fun e w' => e = .returned (.bool true) ∧ w' = w := by
  obtain ⟨i, hi, hcmp⟩ := Option.map_eq_some_iff.1 errIsComp
  obtain ⟨j, hj, hjs⟩ := Option.map_eq_some_iff.1 errIsSize
  have h8 := @run_callFunc_extern Tryz.prog 87 _ (Extern.ReflectliteType.typeOf) Tryz.func87 (by kernel_rfl) (by kernel_rfl) (by kernel_rfl) (by kernel_rfl)
  have h32 := @run_callFunc_extern Tryz.prog 244 _ (Extern.ReflectliteType.method fun t => do Extern.Rtype.noPackHeld "Comparable" t; pure (.bool (← typeInfo t).comparable)) Tryz.func244 (by kernel_rfl) (by kernel_rfl) (by kernel_rfl) (by kernel_rfl)
  have tT := errTypeOf
  have cT := errComparable
  have mR := errMethodComparable
  have nE := errNoIsE
  have uE := errNoUnwrapE
  have vE := errNoUnwrapsE
  have nW := errNoIsV
  have uW := errHasUnwrapV
  have mU := errMethodUnwrap
  have heq := run_eql_iface_ptr_same (P := Tryz.prog) w b Tryz.underlying75 Tryz.underlying245 hi hcmp hj
  have hty := run_eql_iface_types (P := Tryz.prog) 77 245 (.pointer (some ⟨g, 0, none⟩)) (.pointer (some b)) Tryz.underlying75 (by decide) w
  go_enter Tryz.func45, Tryz.ntmps45
  go_wp2
  refine wp_loop_rounds 2 ?_
  rw [rounds_succ]
  go_wp2
  rw [rounds_succ]
  go_wp2
  go_ret
  exact ⟨rfl, rfl⟩

/-- errors.Is(v, x), v a violation of another sentinel. -/
theorem is_viol_other (g : Nat) (b a : Addr) (ca cb : Array Value) (ta tb : TypeId) (w : World) (h1 : w.cell? ⟨g, 0, none⟩ = some (.iface 245 (.pointer (some a)))) (hne : a ≠ b) (ha : w.heap[a.block]? = some (.cells ca ta (0, 0))) (hb : w.heap[b.block]? = some (.cells cb tb (0, 0))) :
    Calls Tryz.prog 45 #[.iface 77 (.pointer (some ⟨g, 0, none⟩)), .iface 245 (.pointer (some b))] w fun e w' => e = .returned (.bool false) ∧ w' = w := by
  obtain ⟨i, hi, hcmp⟩ := Option.map_eq_some_iff.1 errIsComp
  obtain ⟨j, hj, hjs⟩ := Option.map_eq_some_iff.1 errIsSize
  have h8 := @run_callFunc_extern Tryz.prog 87 _ (Extern.ReflectliteType.typeOf) Tryz.func87 (by kernel_rfl) (by kernel_rfl) (by kernel_rfl) (by kernel_rfl)
  have h32 := @run_callFunc_extern Tryz.prog 244 _ (Extern.ReflectliteType.method fun t => do Extern.Rtype.noPackHeld "Comparable" t; pure (.bool (← typeInfo t).comparable)) Tryz.func244 (by kernel_rfl) (by kernel_rfl) (by kernel_rfl) (by kernel_rfl)
  have tT := errTypeOf
  have cT := errComparable
  have mR := errMethodComparable
  have nE := errNoIsE
  have uE := errNoUnwrapE
  have vE := errNoUnwrapsE
  have nW := errNoIsV
  have uW := errHasUnwrapV
  have mU := errMethodUnwrap
  have heq := run_eql_iface_ptr_other (P := Tryz.prog) w Tryz.underlying75 Tryz.underlying245 hi hcmp hj (by rw [hjs]; decide) hne ha hb
  have hty := run_eql_iface_types (P := Tryz.prog) 77 245 (.pointer (some ⟨g, 0, none⟩)) (.pointer (some b)) Tryz.underlying75 (by decide) w
  go_enter Tryz.func45, Tryz.ntmps45
  go_wp2
  refine wp_loop_rounds 2 ?_
  rw [rounds_succ]
  go_wp2
  rw [rounds_succ]
  go_wp2
  go_ret
  exact ⟨rfl, rfl⟩

end Go.Proofs.YtokcinhopajniaaGreatDoor
