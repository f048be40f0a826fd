/- What the listed package variables give the walks: the table of powers of ten, and that ErrRange holds an error; and a start that meets the list. -/
import Derived.Test.YtmmpcaboedjjdaaDoorRows
import Derived.Test.YtmmpcaboedjjdaaDoorW2
import Derived.ProofKit
import Derived.LaidMore
import Derived.OpenShut
import Derived.Stop.Joined
import Derived.Stop.LaidErr
import Derived.Lib.LaidTab
import Derived.Lib.SmallJoins
import Derived.SizedLaws
namespace Go.Proofs.YtmmpcaboedjjdaaDoor
open Go Go.ChangeShapes Go.WideShapes Go.ChangeAt Go.RowKit Go.Joins

theorem own : ownKnob Tryd.prog.godebug = none := by kernel_rfl
theorem cells23 : Tryd.prog.cellsOf 23 = 2 := by kernel_rfl
abbrev laidL : List (String × DataW Unit) := Rows.satStaysRow.laid

/-- The heap that the initialisers' own run leaves meets the list. -/
theorem door_met (os : Os) (args : Array Value) : laidMetH Tryd.prog laidL ((World.doorLaid Tryd.prog 62 os).forCall (fun _ _ => 0) ⟨#[], args, []⟩).memory :=
  laidMetH_of_parts3 (fuel := 8) (laidMet_of_run' 8 (by kernel_rfl) (by kernel_rfl)) (by kernel_rfl) (by kernel_rfl)

theorem gPow : Tryd.prog.globalNamed "internal/strconv.uint64pow10" = some 2 := by kernel_rfl
theorem gPowT : (Tryd.prog.globals[2]?).map (·.type) = some 74 := by kernel_rfl
theorem gRng : Tryd.prog.globalNamed "strconv.ErrRange" = some 1 := by kernel_rfl
theorem gRngT : (Tryd.prog.globals[1]?).map (·.type) = some 46 := by kernel_rfl
theorem c54 : Tryd.prog.cellsOf 54 = 1 := by kernel_rfl
theorem c74 : Tryd.prog.cellsOf 74 = 20 := by kernel_rfl
theorem c82 : Tryd.prog.cellsOf 82 = 1 := by kernel_rfl
theorem c9 : Tryd.prog.cellsOf 9 = 1 := by kernel_rfl
theorem powD : (Rows.laid_internal_strconv_uint64pow10 : DataW Unit) = Lib.tabData .u64 Lib.pow10Tab := by
  simp [Rows.laid_internal_strconv_uint64pow10, Lib.tabData, Lib.pow10Tab, List.range, List.range.loop]

theorem var_below {w w' : World} {B : Nat} {n : String} {g : Nat} {cs : Array Value} (hg : Tryd.prog.globalNamed n = some g) (hB : g < B) (h : w.var? Tryd.prog n = some cs) (hb : Below B w w') : w'.var? Tryd.prog n = some cs := by
  exact var?_below hb hg hB h

theorem starred : "*" ++ "errors.errorString" = "*errors.errorString" := by decide
theorem row80 (u : TypeId) (h : Tryd.prog.typeName? 3 u = some "*errors.errorString") : u = 80 :=
  typeName_ptr_named (nm := "errors.errorString") (by rw [starred]; kernel_rfl) (by kernel_rfl) (by decide) u (by rw [starred]; exact h)

/-- FROM THE LIST TO WHAT THE WALKS ASK. -/
theorem env_of {W : World} (h : laidMetH Tryd.prog laidL W): Env W.heap.size W := by
  rw [MakeChecks.laidMetH_plain _ _ _ (by kernel_rfl)] at h
  have h2 := h.tail.tail
  have h3 := h.tail.tail.tail
  have hT : Lib.TabIs Tryd.prog W "internal/strconv.uint64pow10" .u64 Lib.pow10Tab := by
    rw [powD] at h2
    exact Lib.tabIs_of_head gPow gPowT Tryd.underlying74 Tryd.underlying54 c54 c74 h2
  obtain ⟨a, s, hv, _, _, _⟩ := laid_sentinel h3 gRng gRngT Tryd.underlying46 row80 Tryd.underlying80 Tryd.underlying82 rfl rfl Tryd.underlying9 c82 c9
  have hc : W.cell? ⟨1, 0, none⟩ = some (.iface 80 (.pointer (some a))) := by have h0 := World.var?_cell gRng hv 0; simpa using h0
  have hz := World.block_lt_of_cell? _ _ hc
  exact ⟨Lib.tabBelow_of_tabIs hT, fun w' hb => ⟨_, _, var_below gRng hz hv hb⟩, Nat.le_refl _⟩
end Go.Proofs.YtmmpcaboedjjdaaDoor
