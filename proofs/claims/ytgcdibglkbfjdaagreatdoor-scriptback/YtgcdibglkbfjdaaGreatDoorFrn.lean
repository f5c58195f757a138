/- What the cards tie of the script's variables (layer 25). -/
import Derived.Test.YtgcdibglkbfjdaaGreatDoorSxd
import Derived.Test.YtgcdibglkbfjdaaGreatDoorRows
import Derived.MakeChecks
import Derived.Stop.LaidErr
import Derived.OpenShut
import Derived.Lib.LaidTab
namespace Go.Proofs.YtgcdibglkbfjdaaGreatDoor
open Go.RowKit Go.ChangeShapes Go.WideShapes Go.Deep
set_option linter.unusedVariables false
set_option maxRecDepth 100000

theorem starE : "*" ++ "errors.errorString" = "*errors.errorString" := by decide
theorem rowE (u : TypeId) (h : Tryz.prog.typeName? 3 u = some "*errors.errorString") : u = 189 :=
  typeName_ptr_named (nm := "errors.errorString") (by rw [starE]; kernel_rfl) (by kernel_rfl) (by decide) u (by rw [starE]; exact h)
theorem oneE : ((List.range Tryz.prog.types.size).filter fun t => Tryz.prog.rowNamed t [101, 114, 114, 111, 114]) = [31] := by kernel_rfl
theorem rtE : (Tryz.prog.cutTypes.find? (·.1 == "internal/reflectlite.rtype")).map (·.2) = some 144 := by kernel_rfl
theorem etE : Tryz.prog.globalNamed "errors.errorType" = some 1 := by kernel_rfl
theorem tabE : (Rows.laid_internal_strconv_uint64pow10 : DataW Unit) = Lib.tabData .u64 Lib.pow10Tab := by kernel_rfl

/-- The variables that a script's statement lists. -/
def laidS : List (String × DataW Unit) := [("math/bits.deBruijn32tab", Rows.laid_math_bits_deBruijn32tab), ("math/bits.deBruijn64tab", Rows.laid_math_bits_deBruijn64tab), ("internal/strconv.uint64pow10", Rows.laid_internal_strconv_uint64pow10), ("strconv.ErrRange", Rows.laid_strconv_ErrRange), ("strconv.ErrSyntax", Rows.laid_strconv_ErrSyntax), ("lagleash/script.names", Rows.laid_lagleash_script_names)]

theorem nms_of {W : World} (h : laidMet Tryz.prog [("lagleash/script.names", Rows.laid_lagleash_script_names)] W) : Nms W := by
  obtain ⟨ps, ⟨g, t, cs, fuel, p, q, hg, ht, hv, hd, _, _⟩, _, _⟩ := h
  obtain rfl := Option.some.inj ((show Tryz.prog.globalNamed "lagleash/script.names" = some 0 by kernel_rfl).symm.trans hg)
  obtain rfl := Option.some.inj ((show (Tryz.prog.globals[0]?).map (·.type) = some 105 by kernel_rfl).symm.trans ht)
  have c1 : Tryz.prog.cellsOf 9 = 1 := by kernel_rfl
  obtain ⟨xs, m, _, ex, hlen, hl, hel⟩ := DataW.trod_array Tryz.underlying105 hd
  have hcell := fun r => World.var?_cell hg hv r
  have e3 := (DataW.agg.inj (Prod.mk.inj ex).1)
  intro k hk
  have h1 := hel k hk
  rw [c1] at h1
  have hx : xs[k]? = some (xs[k]'(by omega)) := List.getElem?_eq_getElem _
  rw [hx] at h1
  obtain ⟨s, hc, hs, _⟩ := DataW.trod_string Tryz.underlying9 h1
  have hck : cs.toList[k]? = some (.string s) := by
    have := congrArg (·[0]?) hc
    simpa [List.getElem?_take, List.getElem?_drop] using this
  rw [hcell k, ← Array.getElem?_toList, hck]
  have hm : (xs.map (·.1))[k]? = some (.lit (.string s.data.toList)) := by
    rw [List.getElem?_map, hx, hs]
    rfl
  rw [← e3] at hm
  congr 2
  apply Sct.ba_ext
  have hall : ∀ k : Nat, k < 13 → ([.lit (.string []), .lit (.string [99, 111, 109, 109, 105, 116]), .lit (.string [114, 101, 97, 100]), .lit (.string [116, 105, 99, 107]), .lit (.string [112, 114, 111, 109, 111, 116, 101]), .lit (.string [102, 108, 117, 115, 104]), .lit (.string [100, 101, 108, 105, 118, 101, 114]), .lit (.string [116, 119, 105, 99, 101]), .lit (.string [100, 114, 111, 112]), .lit (.string [102, 117, 115, 101]), .lit (.string [112, 117, 108, 108]), .lit (.string [115, 116, 97, 114, 116]), .lit (.string [114, 111, 117, 110, 100])] : List (DataW Unit))[k]? = some (.lit (.string (nmA k).data.toList)) := by
    intro k hk
    obtain rfl | rfl | rfl | rfl | rfl | rfl | rfl | rfl | rfl | rfl | rfl | rfl | rfl : k = 0 ∨ k = 1 ∨ k = 2 ∨ k = 3 ∨ k = 4 ∨ k = 5 ∨ k = 6 ∨ k = 7 ∨ k = 8 ∨ k = 9 ∨ k = 10 ∨ k = 11 ∨ k = 12 := by omega
    all_goals rfl
  rw [hall k hk] at hm
  have := Option.some.inj hm
  simpa using this.symm

/-- What the cards tie. -/
theorem vs_of {W : World} (h : laidMetH Tryz.prog [("math/bits.deBruijn32tab", Rows.laid_math_bits_deBruijn32tab), ("math/bits.deBruijn64tab", Rows.laid_math_bits_deBruijn64tab), ("internal/strconv.uint64pow10", Rows.laid_internal_strconv_uint64pow10), ("errors.errorType", Rows.laid_errors_errorType), ("strconv.ErrRange", Rows.laid_strconv_ErrRange), ("strconv.ErrSyntax", Rows.laid_strconv_ErrSyntax), ("lagleash/script.names", Rows.laid_lagleash_script_names)] W) : Vs W := by
  have h' : laidMet Tryz.prog laidS W ∧ handlesMet Tryz.prog [("errors.errorType", Rows.laid_errors_errorType)] W := h
  obtain ⟨h1, h2⟩ := h'
  unfold laidS at h1
  have ht := h1.tail.tail
  rw [tabE] at ht
  refine ⟨nms_of h1.tail.tail.tail.tail.tail, ?_, ?_, ?_, ?_⟩
  · exact Lib.tabIs_of_head (g := 5) (by kernel_rfl) (by kernel_rfl) Tryz.underlying185 Tryz.underlying116 (by kernel_rfl) (by kernel_rfl) ht
  · obtain ⟨a, s, hv, _⟩ := laid_sentinel h1.tail.tail.tail.tail (g := 3) (by kernel_rfl) (show (Tryz.prog.globals[3]?).map (·.type) = some 31 by kernel_rfl) Tryz.underlying31 rowE Tryz.underlying189 Tryz.underlying191 rfl rfl Tryz.underlying9 (by kernel_rfl) (by kernel_rfl)
    exact ⟨_, _, hv⟩
  · obtain ⟨a, s, hv, _⟩ := laid_sentinel h1.tail.tail.tail (g := 4) (by kernel_rfl) (show (Tryz.prog.globals[4]?).map (·.type) = some 31 by kernel_rfl) Tryz.underlying31 rowE Tryz.underlying189 Tryz.underlying191 rfl rfl Tryz.underlying9 (by kernel_rfl) (by kernel_rfl)
    exact ⟨_, _, hv⟩
  · obtain ⟨name, u, ty, e1, e2, e3, e4, e5⟩ := h2 _ (List.mem_singleton.2 rfl)
    have en : name = [101, 114, 114, 111, 114] := (Option.some.inj e1).symm
    subst en
    obtain rfl := Option.some.inj (rtE.symm.trans e2)
    have hm : ty ∈ (List.range Tryz.prog.types.size).filter fun t => Tryz.prog.rowNamed t [101, 114, 114, 111, 114] := List.mem_filter.2 ⟨List.mem_range.2 e3, e4⟩
    rw [oneE] at hm
    obtain rfl := List.mem_singleton.1 hm
    have hh : typeHandle Tryz.prog 31 = .pointer (some ⟨8, 31, none⟩) := by kernel_rfl
    rw [hh] at e5
    simpa using World.var?_cell etE e5 0

end Go.Proofs.YtgcdibglkbfjdaaGreatDoor
