/-
  What the row's list of package-level variables gives: the sentinels; a world that meets it.
-/
import Derived.Test.YtokcinhopajniaaDoorClosImpl
import Derived.Test.YtokcinhopajniaaDoorRows
import Derived.Stop.LaidTwo
import Derived.LaidSub
import Derived.LaidHandle
import Derived.Deep.DeepHandedRow
import Derived.ProofKit
import Derived.OpenShut
import Derived.Carry
import Derived.ChangeVars
namespace Go.Proofs.YtokcinhopajniaaDoor
open Go.ChangeShapes Go.WideShapes Go.ChangeAt Go.RowKit

theorem lv_own : ownKnob Tryd.prog.godebug = none := by kernel_rfl
theorem lv_gI : Tryd.prog.globalNamed "loop.example/g00869/impl.errInvalid" = some 0 := by kernel_rfl
theorem lv_tI : (Tryd.prog.globals[0]?).map (·.type) = some 42 := by kernel_rfl
abbrev lvI : String × DataW Unit := ("loop.example/g00869/impl.errInvalid", Rows.laid_loop_example_g00869_impl_errInvalid)
theorem lv_gL : Tryd.prog.globalNamed "loop.example/g00869/impl.errLeaves" = some 1 := by kernel_rfl
theorem lv_tL : (Tryd.prog.globals[1]?).map (·.type) = some 42 := by kernel_rfl
abbrev lvL : String × DataW Unit := ("loop.example/g00869/impl.errLeaves", Rows.laid_loop_example_g00869_impl_errLeaves)
theorem lv_c0 : Tryd.prog.cellsOf 82 = 1 := by kernel_rfl
theorem lv_cs : Tryd.prog.cellsOf 9 = 1 := by kernel_rfl
theorem lv_star : "*" ++ "errors.errorString" = "*errors.errorString" := by decide
theorem lv_row (u : TypeId) (h : Tryd.prog.typeName? 3 u = some "*errors.errorString") : u = 64 :=
  typeName_ptr_named (nm := "errors.errorString") (by rw [lv_star]; kernel_rfl) (by kernel_rfl) (by decide) u (by rw [lv_star]; exact h)

/-- A variable reads the same in every world that changes nothing old. -/
theorem lv_var {W W' : World} {n : String} {cs : Array Value} (hb : Below W.heap.size W W') (h : W.var? Tryd.prog n = some cs) : W'.var? Tryd.prog n = some cs := by
  unfold World.var? at h ⊢
  cases hg : Tryd.prog.globalNamed n with
  | none => simp [hg] at h
  | some g =>
    simp only [hg, Option.bind_some] at h ⊢
    have hlt : g < W.heap.size := by
      rcases Nat.lt_or_ge g W.heap.size with h' | h'
      · exact h'
      · simp [Array.getElem?_eq_none h'] at h
    rw [hb.block g hlt]
    exact h
theorem lv_cons {H : Type} (enc : TypeId × Value → H) {W : World} {n : String} {g : Nat} {x : Value} {ns : List String} {ds : List (DataW H)} {q : List MemPlace} {sp : Nat → Bool} {ms : Array (String × TypeId)}
    (hg : Tryd.prog.globalNamed n = some g) (ht : (Tryd.prog.globals[g]?).map (·.type) = some 42) (hi : Tryd.prog.underlying 42 = some (.interface ms)) (h : W.var? Tryd.prog n = some #[x]) (ix : IsIface x) (hr : DataW.TrodVars enc Tryd.prog W sp ns ds q) :
    DataW.TrodVars enc Tryd.prog W sp (n :: ns) (tok enc x :: ds) (.cell g 0 :: q) :=
  ⟨g, 42, #[x], 1, [], q, hg, ht, h, trod_held hi ix 0, hr, rfl⟩

/-- What is read of the sentinels. -/
def LvReads (W : World) (ai al : Addr) : Prop := W.var? Tryd.prog "loop.example/g00869/impl.errInvalid" = some #[.iface 64 (.pointer (some ai))] ∧ W.var? Tryd.prog "loop.example/g00869/impl.errLeaves" = some #[.iface 64 (.pointer (some al))]
theorem LvReads.below {W W' : World} {ai al : Addr} (h : LvReads W ai al) (hb : Below W.heap.size W W') : LvReads W' ai al := ⟨lv_var hb h.1, lv_var hb h.2⟩

theorem lv_sent {W : World} (h : laidMet Tryd.prog [lvI, lvL] W) : ∃ ai al, ErrsC W ai al ∧ LvReads W ai al := by
  obtain ⟨ai, al, _, _, ci, cl, ti, tl, hvi, hvl, _, _, _, _, _, _, hil, hbi, hbl⟩ := laid_sentinels2 (r := []) h lv_gI lv_tI lv_gL lv_tL Tryd.underlying42 lv_row Tryd.underlying64 Tryd.underlying82 rfl rfl Tryd.underlying9 lv_c0 lv_cs
  exact ⟨_, _, ⟨by simpa using World.var?_cell lv_gI hvi 0, by simpa using World.var?_cell lv_gL hvl 0⟩, hvi, hvl⟩

theorem lv_S {W : World} (h : laidMetH Tryd.prog [lvI, lvL] W) : laidMet Tryd.prog [lvI, lvL] W := by
  have h2 := (laidMetH_iff.1 h).1
  rw [show ([lvI, lvL].filter fun x => x.2.handleName?.isNone) = [lvI, lvL] by kernel_rfl] at h2
  exact h2

abbrev lvTextI : ByteArray := { data := #[97, 110, 32, 97, 114, 103, 117, 109, 101, 110, 116, 32, 105, 115, 32, 110, 111, 116, 32, 118, 97, 108, 105, 100] }
abbrev lvTextL : ByteArray := { data := #[97, 32, 112, 108, 97, 121, 32, 116, 104, 97, 116, 32, 102, 111, 108, 108, 111, 119, 115, 32, 116, 104, 101, 32, 112, 108, 97, 110, 32, 99, 97, 110, 32, 108, 101, 97, 118, 101, 32, 116, 104, 101, 32, 114, 101, 103, 105, 111, 110] }
noncomputable def lvLow : Nat := (World.holding Tryd.prog default ⟨#[], #[], []⟩).heap.size
/-- A world that meets the list. -/
noncomputable def lvWorld (os : Os) : World :=
  let w0 := World.holding Tryd.prog os ⟨#[.cells #[.string lvTextI] 82, .cells #[.string lvTextL] 82], #[], []⟩
  { w0 with heap := ((w0.heap.modify 0 fun
      | .cells _ t frozen => .cells #[.iface 64 (.pointer (some ⟨lvLow + 0, 0, none⟩))] t frozen
      | o => o).modify 1 fun
      | .cells _ t frozen => .cells #[.iface 64 (.pointer (some ⟨lvLow + 1, 0, none⟩))] t frozen
      | o => o) }
theorem lv_met (os : Os) (args : Array Value) : laidMet Tryd.prog [lvI, lvL] ((lvWorld os).forCall (fun _ _ => 0) ⟨#[], args, []⟩).memory :=
  laidMet_of_run' 8 (by kernel_rfl) (by kernel_rfl)
theorem lv_metS (os : Os) (args : Array Value) : laidMetH Tryd.prog [lvI, lvL] ((lvWorld os).forCall (fun _ _ => 0) ⟨#[], args, []⟩).memory :=
  laidMetH_of_parts (by rw [show ([lvI, lvL].filter fun x => x.2.handleName?.isNone) = [lvI, lvL] by kernel_rfl]; exact lv_met os args) (by kernel_rfl)

end Go.Proofs.YtokcinhopajniaaDoor
