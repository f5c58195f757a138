/- Plain facts on many numbers' bytes in a row. No program. -/
import Derived.Test.YtgffjdkcoijniaaMath
namespace Go.Proofs.Ytgffjdkcoijniaa.Vm

/-- The bytes of many numbers, one behind the other. -/
def cat (l : List Int) : List Int := l.flatMap fun x => enc x.toNat

theorem cat_nil : cat [] = [] := rfl
theorem cat_snoc (l : List Int) (x : Int) : cat (l ++ [x]) = cat l ++ enc x.toNat := by simp [cat]
theorem cat_cons (x : Int) (l : List Int) : cat (x :: l) = enc x.toNat ++ cat l := by simp [cat]
theorem cat_append (l m : List Int) : cat (l ++ m) = cat l ++ cat m := by simp [cat]
theorem cat_take (l : List Int) (k : Nat) (h : k < l.length) : cat (l.take (k + 1)) = cat (l.take k) ++ enc (l[k]).toNat := by
  rw [List.take_succ_eq_append_getElem h, cat_snoc]

theorem cat_len : ∀ (l : List Int), (∀ x ∈ l, x < 18446744073709551616) → (cat l).length ≤ 10 * l.length
  | [], _ => by simp [cat]
  | x :: l, h => by
    have h1 := cat_len l (fun y hy => h y (List.mem_cons_of_mem _ hy))
    have hx := h x (List.mem_cons_self ..)
    have h2 := sz_le10 (x := x.toNat) (by omega)
    have e : cat (x :: l) = enc x.toNat ++ cat l := by simp [cat]
    rw [e, List.length_append, List.length_cons]
    unfold sz at h2
    omega

theorem cat_take_len (l : List Int) (k : Nat) (h : k < l.length) : (cat (l.take (k + 1))).length = (cat (l.take k)).length + sz (l[k]).toNat := by
  rw [cat_take l k h, List.length_append]; rfl

theorem cat_mono (l : List Int) (k : Nat) : (cat (l.take k)).length ≤ (cat l).length := by
  have e : cat l = cat (l.take k) ++ cat (l.drop k) := by rw [← cat_append, List.take_append_drop]
  rw [e, List.length_append]; omega

theorem cat_drop (l : List Int) (k : Nat) (h : k < l.length) : (cat l).drop (cat (l.take k)).length = enc (l[k]).toNat ++ cat (l.drop (k + 1)) := by
  have e : cat l = cat (l.take k) ++ (enc (l[k]).toNat ++ cat (l.drop (k + 1))) := by
    conv => lhs; rw [← List.take_append_drop k l, List.drop_eq_getElem_cons h]
    rw [cat_append, cat_cons]
  rw [e, List.drop_left' rfl]

/-- The part of the bytes from the k-th number's beginning up to p. -/
theorem cut_whole (l : List Int) (k p : Nat) (h : k < l.length) (h0 : 0 ≤ l[k]) (h1 : l[k] < 18446744073709551616) (hp : (cat (l.take k)).length + sz (l[k]).toNat ≤ p) :
    Res (((cat l).drop (cat (l.take k)).length).take (p - (cat (l.take k)).length)) (l[k]) (sz (l[k]).toNat) 0 := by
  rw [cat_drop l k h]
  refine .inl ⟨(l[k]).toNat, by omega, ?_, by omega, rfl, rfl⟩
  rw [List.prefix_take_iff]
  refine ⟨List.prefix_append _ _, ?_⟩
  unfold sz at hp
  omega

theorem cut_short (l : List Int) (k p : Nat) (h : k < l.length) (hp : p < (cat (l.take k)).length + sz (l[k]).toNat) :
    Res (((cat l).drop (cat (l.take k)).length).take (p - (cat (l.take k)).length)) 0 0 5 := by
  rw [cat_drop l k h]
  refine .inr ⟨fun u _ hu => ?_, rfl, rfl, rfl⟩
  rw [List.prefix_take_iff] at hu
  have := pre_one _ u (l[k]).toNat hu.1 (List.prefix_append _ _)
  subst this
  have := sz_pos (l[k]).toNat
  unfold sz at hp this
  omega

end Go.Proofs.Ytgffjdkcoijniaa.Vm
