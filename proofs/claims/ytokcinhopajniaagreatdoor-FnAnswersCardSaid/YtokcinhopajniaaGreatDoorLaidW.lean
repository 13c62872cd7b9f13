/-
  What the row's list of package-level variables gives: the sentinels, the library's handle; a world that meets it.
-/
import Derived.Test.YtokcinhopajniaaGreatDoorCheckImpl
import Derived.Test.YtokcinhopajniaaGreatDoorRows
import Derived.Stop.LaidTwo
import Derived.LaidSub
import Derived.LaidHandle
import Derived.Deep.DeepHandedRow
import Derived.ProofKit
import Derived.OpenShut
import Derived.Carry
import Derived.ChangeVars
namespace Go.Proofs.YtokcinhopajniaaGreatDoor
open Go.ChangeShapes Go.WideShapes Go.ChangeAt Go.RowKit

theorem lv_own : ownKnob Tryz.prog.godebug = none := by kernel_rfl
theorem lv_gI : Tryz.prog.globalNamed "loop.example/g00869/impl.errInvalid" = some 2 := by kernel_rfl
theorem lv_tI : (Tryz.prog.globals[2]?).map (·.type) = some 75 := by kernel_rfl
abbrev lvI : String × DataW Unit := ("loop.example/g00869/impl.errInvalid", Rows.laid_loop_example_g00869_impl_errInvalid)
theorem lv_gL : Tryz.prog.globalNamed "loop.example/g00869/impl.errLeaves" = some 1 := by kernel_rfl
theorem lv_tL : (Tryz.prog.globals[1]?).map (·.type) = some 75 := by kernel_rfl
abbrev lvL : String × DataW Unit := ("loop.example/g00869/impl.errLeaves", Rows.laid_loop_example_g00869_impl_errLeaves)
theorem lv_gO : Tryz.prog.globalNamed "loop.example/g00869/impl.errLoses" = some 0 := by kernel_rfl
theorem lv_tO : (Tryz.prog.globals[0]?).map (·.type) = some 75 := by kernel_rfl
abbrev lvO : String × DataW Unit := ("loop.example/g00869/impl.errLoses", Rows.laid_loop_example_g00869_impl_errLoses)
theorem lv_c0 : Tryz.prog.cellsOf 266 = 1 := by kernel_rfl
theorem lv_cs : Tryz.prog.cellsOf 9 = 1 := by kernel_rfl
theorem lv_star : "*" ++ "errors.errorString" = "*errors.errorString" := by decide
theorem lv_row (u : TypeId) (h : Tryz.prog.typeName? 3 u = some "*errors.errorString") : u = 245 :=
  typeName_ptr_named (nm := "errors.errorString") (by rw [lv_star]; kernel_rfl) (by kernel_rfl) (by decide) u (by rw [lv_star]; exact h)

/-- A variable reads the same in every world that changes nothing old. -/
theorem lv_var {W W' : World} {n : String} {cs : Array Value} (hb : Below W.heap.size W W') (h : W.var? Tryz.prog n = some cs) : W'.var? Tryz.prog n = some cs := by
  unfold World.var? at h ⊢
  cases hg : Tryz.prog.globalNamed n with
  | none => simp [hg] at h
  | some g =>
    simp only [hg, Option.bind_some] at h ⊢
    have hlt : g < W.heap.size := by
      rcases Nat.lt_or_ge g W.heap.size with h' | h'
      · exact h'
      · simp [Array.getElem?_eq_none h'] at h
    rw [hb.block g hlt]
    exact h
theorem lv_cons {H : Type} (enc : TypeId × Value → H) {W : World} {n : String} {g : Nat} {x : Value} {ns : List String} {ds : List (DataW H)} {q : List MemPlace} {sp : Nat → Bool} {ms : Array (String × TypeId)}
    (hg : Tryz.prog.globalNamed n = some g) (ht : (Tryz.prog.globals[g]?).map (·.type) = some 75) (hi : Tryz.prog.underlying 75 = some (.interface ms)) (h : W.var? Tryz.prog n = some #[x]) (ix : IsIface x) (hr : DataW.TrodVars enc Tryz.prog W sp ns ds q) :
    DataW.TrodVars enc Tryz.prog W sp (n :: ns) (tok enc x :: ds) (.cell g 0 :: q) :=
  ⟨g, 75, #[x], 1, [], q, hg, ht, h, trod_held hi ix 0, hr, rfl⟩

/-- What is read of the sentinels. -/
def LvReads (W : World) (ai al ao : Addr) : Prop := W.var? Tryz.prog "loop.example/g00869/impl.errInvalid" = some #[.iface 245 (.pointer (some ai))] ∧ W.var? Tryz.prog "loop.example/g00869/impl.errLeaves" = some #[.iface 245 (.pointer (some al))] ∧ W.var? Tryz.prog "loop.example/g00869/impl.errLoses" = some #[.iface 245 (.pointer (some ao))]
theorem LvReads.below {W W' : World} {ai al ao : Addr} (h : LvReads W ai al ao) (hb : Below W.heap.size W W') : LvReads W' ai al ao := ⟨lv_var hb h.1, lv_var hb h.2.1, lv_var hb h.2.2⟩

theorem lv_sent {W : World} (h : laidMet Tryz.prog [lvI, lvL, lvO] W) : ∃ ai al ao, ErrsW W ai al ao ∧ LvReads W ai al ao := by
  obtain ⟨ai, al, _, _, ci, cl, ti, tl, hvi, hvl, _, _, _, _, _, _, hil, hbi, hbl⟩ := laid_sentinels2 (r := [lvO]) h lv_gI lv_tI lv_gL lv_tL Tryz.underlying75 lv_row Tryz.underlying245 Tryz.underlying266 rfl rfl Tryz.underlying9 lv_c0 lv_cs
  obtain ⟨al', ao, _, _, _, co, _, to, hvl', hvo, _, _, _, _, _, _, hlo, _, hbo⟩ := laid_sentinels2 (r := []) h.tail lv_gL lv_tL lv_gO lv_tO Tryz.underlying75 lv_row Tryz.underlying245 Tryz.underlying266 rfl rfl Tryz.underlying9 lv_c0 lv_cs
  have e1 : al' = al := by
    have := hvl'.symm.trans hvl
    simpa using this
  subst e1
  have h2 := h.filter (fun x => x.1 != "loop.example/g00869/impl.errLeaves")
  rw [show ([lvI, lvL, lvO].filter fun x => x.1 != "loop.example/g00869/impl.errLeaves") = [lvI, lvO] by kernel_rfl] at h2
  obtain ⟨ai', ao', _, _, _, _, _, _, hvi', hvo', _, _, _, _, _, _, hio, _, _⟩ := laid_sentinels2 (r := []) h2 lv_gI lv_tI lv_gO lv_tO Tryz.underlying75 lv_row Tryz.underlying245 Tryz.underlying266 rfl rfl Tryz.underlying9 lv_c0 lv_cs
  have e2 : ai' = ai := by
    have := hvi'.symm.trans hvi
    simpa using this
  have e3 : ao' = ao := by
    have := hvo'.symm.trans hvo
    simpa using this
  subst e2
  subst e3
  exact ⟨_, _, _, ⟨⟨by simpa using World.var?_cell lv_gI hvi 0, by simpa using World.var?_cell lv_gL hvl 0⟩, by simpa using World.var?_cell lv_gO hvo 0, hil, hio, hlo, ⟨_, _, hbi⟩, ⟨_, _, hbl⟩, ⟨_, _, hbo⟩⟩, hvi, hvl, hvo⟩

theorem lv_S {W : World} (h : laidMetH Tryz.prog [lvI, lvL, lvO] W) : laidMet Tryz.prog [lvI, lvL, lvO] W := by
  have h2 := (laidMetH_iff.1 h).1
  rw [show ([lvI, lvL, lvO].filter fun x => x.2.handleName?.isNone) = [lvI, lvL, lvO] by kernel_rfl] at h2
  exact h2

abbrev lvTextI : ByteArray := { data := #[97, 110, 32, 97, 114, 103, 117, 109, 101, 110, 116, 32, 105, 115, 32, 110, 111, 116, 32, 118, 97, 108, 105, 100] }
abbrev lvTextL : ByteArray := { data := #[97, 32, 112, 108, 97, 121, 32, 116, 104, 97, 116, 32, 102, 111, 108, 108, 111, 119, 115, 32, 116, 104, 101, 32, 112, 108, 97, 110, 32, 99, 97, 110, 32, 108, 101, 97, 118, 101, 32, 116, 104, 101, 32, 114, 101, 103, 105, 111, 110] }
abbrev lvTextO : ByteArray := { data := #[97, 32, 108, 111, 111, 112, 32, 116, 104, 97, 116, 32, 102, 111, 108, 108, 111, 119, 115, 32, 116, 104, 101, 32, 112, 108, 97, 110, 32, 105, 115, 32, 119, 111, 110, 32, 98, 121, 32, 116, 104, 101, 32, 111, 112, 112, 111, 110, 101, 110, 116] }
noncomputable def lvLow : Nat := (World.holding Tryz.prog default ⟨#[], #[], []⟩).heap.size
/-- A world that meets the list. -/
noncomputable def lvWorld (os : Os) : World :=
  let w0 := World.holding Tryz.prog os ⟨#[.cells #[.string lvTextI] 266, .cells #[.string lvTextL] 266, .cells #[.string lvTextO] 266], #[], []⟩
  { w0 with heap := ((((w0.heap.modify 2 fun
      | .cells _ t frozen => .cells #[.iface 245 (.pointer (some ⟨lvLow + 0, 0, none⟩))] t frozen
      | o => o).modify 1 fun
      | .cells _ t frozen => .cells #[.iface 245 (.pointer (some ⟨lvLow + 1, 0, none⟩))] t frozen
      | o => o).modify 0 fun
      | .cells _ t frozen => .cells #[.iface 245 (.pointer (some ⟨lvLow + 2, 0, none⟩))] t frozen
      | o => o).modify 3 fun
      | .cells _ t frozen => .cells #[.iface 160 (.agg #[typeHandle Tryz.prog 75])] t frozen
      | o => o) }
theorem lv_met (os : Os) (args : Array Value) : laidMet Tryz.prog [lvI, lvL, lvO] ((lvWorld os).forCall (fun _ _ => 0) ⟨#[], args, []⟩).memory :=
  laidMet_of_run' 8 (by kernel_rfl) (by kernel_rfl)
theorem lv_metS (os : Os) (args : Array Value) : laidMetH Tryz.prog [lvI, lvL, lvO] ((lvWorld os).forCall (fun _ _ => 0) ⟨#[], args, []⟩).memory :=
  laidMetH_of_parts (by rw [show ([lvI, lvL, lvO].filter fun x => x.2.handleName?.isNone) = [lvI, lvL, lvO] by kernel_rfl]; exact lv_met os args) (by kernel_rfl)
end Go.Proofs.YtokcinhopajniaaGreatDoor
