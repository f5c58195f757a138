/- What the reach says of a string in a field of a struct. -/
import Derived.SizedLaws
import Derived.Lib.SmallJoins
namespace Go.Proofs.Ytlfhpbiapnjghaa
open Go.RowKit

theorem sized_field {H : Type} {P : Program} {ts : List TypeId} {ds : List (DataW H)} (h : (DataW.weightsEach P ts ds).all (· ≤ reachBytes) = true) {j : Nat} {t : TypeId} {parts : List (DataW H)} (ht : ts[j]? = some t) (hd : ds[j]? = some (.agg parts)) {fs : Array Field} (hu : P.underlying t = some (.struct fs))
    {f : Nat} {ft : TypeId} {bytes : List UInt8} (hf : (fs.toList.map (·.type))[f]? = some ft) (hp : parts[f]? = some (.lit (.string bytes))) : bytes.length ≤ reachBytes := by
  have hm : bytes.length ∈ DataW.weights P t (.agg parts) := by
    simp only [DataW.weights, hu]
    exact DataW.weights_mem_each hf hp _ (by simp [DataW.weights])
  have := List.all_eq_true.1 h _ (DataW.weights_mem_each ht hd _ hm)
  simpa using this

end Go.Proofs.Ytlfhpbiapnjghaa
