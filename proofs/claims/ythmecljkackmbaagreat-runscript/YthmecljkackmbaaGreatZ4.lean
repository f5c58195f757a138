/- Texts of one layer, one behind the other. -/
import Derived.Test.YthmecljkackmbaaGreatZ3
import Derived.Test.YthmecljkackmbaaGreatZ1
/- Sorted runs, by mathematics: which may be, their bytes, what Decode answers. No program. -/
namespace Go.Proofs.YthmecljkackmbaaGreat.Rn
set_option linter.unusedVariables false
open Vm Om Bm

/-- Each op may be, and they rise by key from another key on. -/
def may (ah : ByteArray) : List Ov → Bool
  | [] => true
  | o :: r => decide (o.c = 0) && (Tm.lt ah o.k && may o.k r)

/-- The last key. -/
def lstK (ah : ByteArray) : List Ov → ByteArray
  | [] => ah
  | o :: r => lstK o.k r

/-- What Check answers. -/
def chk (f u : Int) (l : List Ov) : Int := if 1024 < l.length then 3 else if 1 ≤ f ∧ f ≤ u ∧ u ≤ 1048576 ∧ may ⟨#[]⟩ l = true then 0 else 2

theorem chk_long {f u : Int} {l : List Ov} (h : 1024 < l.length) : chk f u l = 3 := if_pos h
theorem chk_ok {f u : Int} {l : List Ov} (h : ¬ 1024 < l.length) (k : 1 ≤ f ∧ f ≤ u ∧ u ≤ 1048576 ∧ may ⟨#[]⟩ l = true) : chk f u l = 0 := by unfold chk; rw [if_neg h, if_pos k]
theorem chk_no {f u : Int} {l : List Ov} (h : ¬ 1024 < l.length) (k : ¬ (1 ≤ f ∧ f ≤ u ∧ u ≤ 1048576 ∧ may ⟨#[]⟩ l = true)) : chk f u l = 2 := by unfold chk; rw [if_neg h, if_neg k]

theorem chk_zero {f u : Int} {l : List Ov} (h : chk f u l = 0) : l.length ≤ 1024 ∧ 1 ≤ f ∧ f ≤ u ∧ u ≤ 1048576 ∧ may ⟨#[]⟩ l = true := by
  unfold chk at h
  split at h
  · simp at h
  · rename_i h1
    split at h
    · rename_i h2
      exact ⟨by omega, h2⟩
    · simp at h

theorem chk_three (f u : Int) (l : List Ov) : chk f u l = 0 ∨ chk f u l = 2 ∨ chk f u l = 3 := by
  unfold chk
  split
  · exact .inr (.inr rfl)
  split
  · exact .inl rfl
  · exact .inr (.inl rfl)

theorem may_app : ∀ (l m : List Ov) (ah : ByteArray), may ah (l ++ m) = (may ah l && may (lstK ah l) m)
  | [], m, ah => by simp [may, lstK]
  | o :: l, m, ah => by simp [may, lstK, may_app l m, Bool.and_assoc]

theorem lstK_snoc : ∀ (l : List Ov) (o : Ov) (ah : ByteArray), lstK ah (l ++ [o]) = o.k
  | [], _, _ => rfl
  | q :: l, o, _ => lstK_snoc l o q.k

theorem may_c : ∀ {l : List Ov} {ah : ByteArray}, may ah l = true → ∀ o ∈ l, o.c = 0
  | [], _, _, o, ho => by simp at ho
  | q :: l, ah, h, o, ho => by
    simp only [may, Bool.and_eq_true, decide_eq_true_eq] at h
    rcases List.mem_cons.1 ho with rfl | ho
    · exact h.1
    · exact may_c h.2.2 o ho

theorem may_up : ∀ {l : List Ov} {ah : ByteArray}, may ah l = true → Tm.Up l ∧ ∀ o ∈ l, Tm.lt ah o.k = true
  | [], _, _ => ⟨List.Pairwise.nil, fun o ho => by simp at ho⟩
  | q :: l, ah, h => by
    simp only [may, Bool.and_eq_true, decide_eq_true_eq] at h
    obtain ⟨h1, h2⟩ := may_up h.2.2
    refine ⟨List.pairwise_cons.2 ⟨fun o ho => h2 o ho, h1⟩, fun o ho => ?_⟩
    rcases List.mem_cons.1 ho with rfl | ho
    · exact h.2.1
    · exact Tm.lt_trans h.2.1 (h2 o ho)

theorem may_from : ∀ {l : List Ov} {ah : ByteArray}, (∀ o ∈ l, o.c = 0) → Tm.Up l → (∀ o ∈ l, Tm.lt ah o.k = true) → may ah l = true
  | [], _, _, _, _ => rfl
  | q :: l, ah, h1, h2, h3 => by
    obtain ⟨g1, g2⟩ := List.pairwise_cons.1 h2
    simp only [may, Bool.and_eq_true, decide_eq_true_eq]
    exact ⟨h1 q (by simp), h3 q (by simp), may_from (fun o ho => h1 o (by simp [ho])) g2 fun o ho => g1 o ho⟩

/-- No key is empty. -/
theorem lt_none {k : ByteArray} (h : 1 ≤ k.data.toList.length) : Tm.lt ⟨#[]⟩ k = true := by
  unfold Tm.lt
  rw [← Tm.less_before]
  cases hk : k.data.toList with
  | nil => rw [hk] at h; simp at h
  | cons x r => rfl

theorem key_pos {o : Ov} (h : o.c = 0) : 1 ≤ o.k.data.toList.length := (chk_ok' h).1

theorem may_of {l : List Ov} (h : ∀ o ∈ l, o.c = 0) (hu : Tm.Up l) : may ⟨#[]⟩ l = true := may_from h hu fun o ho => lt_none (key_pos (h o ho))

/-- The ops' bytes. -/
def ens : List Ov → List Int
  | [] => []
  | o :: r => opEnc o.p o.kl o.vl ++ ens r

theorem ens_app : ∀ (l m : List Ov), ens (l ++ m) = ens l ++ ens m
  | [], _ => rfl
  | o :: l, m => by
    show opEnc o.p o.kl o.vl ++ ens (l ++ m) = opEnc o.p o.kl o.vl ++ ens l ++ ens m
    rw [ens_app l m, List.append_assoc]

theorem ens_one (o : Ov) : ens [o] = opEnc o.p o.kl o.vl := by simp [ens]

theorem ens_snoc (l : List Ov) (o : Ov) : ens (l ++ [o]) = ens l ++ opEnc o.p o.kl o.vl := by rw [ens_app, ens_one]

theorem ens_free : ∀ (l m : List Ov) (bs : List Int), l.length = m.length → (∀ o ∈ l, o.c = 0) → (∀ o ∈ m, o.c = 0) → ens l <+: bs → ens m <+: bs → l = m
  | [], [], _, _, _, _, _, _ => rfl
  | [], _ :: _, _, h, _, _, _, _ => by simp at h
  | _ :: _, [], _, h, _, _, _, _ => by simp at h
  | o :: l, q :: m, bs, hl, h1, h2, h, g => by
    unfold ens at h g
    rw [pre_app] at h g
    obtain ⟨e1, e2, e3⟩ := opEnc_free h.1 g.1 (h1 o (by simp)) (h2 q (by simp))
    obtain rfl := Ov.eq e1 e2 e3
    rw [ens_free l m _ (by simpa using hl) (fun x hx => h1 x (by simp [hx])) (fun x hx => h2 x (by simp [hx])) h.2 g.2]

theorem ens_le : ∀ {l : List Ov}, (∀ o ∈ l, o.c = 0) → (ens l).length ≤ 51 * l.length
  | [], _ => by simp [ens]
  | o :: l, h => by
    have h1 := opEnc_le (h o (by simp))
    have h2 := ens_le (l := l) fun q hq => h q (List.mem_cons_of_mem _ hq)
    simp only [ens, List.length_append, List.length_cons]
    omega

/-- A run's bytes. -/
def encR (f u : Int) (l : List Ov) : List Int := enc f.toNat ++ (enc u.toNat ++ (enc l.length ++ ens l))

/-- What Encode answers. -/
def out (f u : Int) (l : List Ov) : List Int := if chk f u l = 0 then encR f u l else []

theorem out_ok {f u : Int} {l : List Ov} (h : chk f u l = 0) : out f u l = encR f u l := if_pos h
theorem out_no {f u : Int} {l : List Ov} (h : chk f u l ≠ 0) : out f u l = [] := if_neg h

theorem encR_le {f u : Int} {l : List Ov} (h : chk f u l = 0) : (encR f u l).length ≤ 9 + 51 * l.length := by
  obtain ⟨h1, h2, h3, h4, h5⟩ := chk_zero h
  have a := Cm.enc_small (x := f) (by omega)
  have b := Cm.enc_small (x := u) (by omega)
  have c : (enc l.length).length ≤ 3 := sz_le 2 l.length (by omega)
  have d := ens_le (may_c h5)
  unfold encR
  rw [List.length_append, List.length_append, List.length_append]
  omega

theorem encR_small {f u : Int} {l : List Ov} (h : chk f u l = 0) : (encR f u l).length ≤ 52233 := by
  have := encR_le h
  have := (chk_zero h).1
  omega

theorem out_small (f u : Int) (l : List Ov) : (out f u l).length ≤ 52233 := by
  unfold out
  split
  · exact encR_small (by assumption)
  · simp

theorem parts {f u : Int} {l : List Ov} {bs : List Int} (h : encR f u l <+: bs) : enc f.toNat <+: bs ∧ enc u.toNat <+: bs.drop (sz f.toNat) ∧ enc l.length <+: bs.drop (sz f.toNat + sz u.toNat) ∧
    ens l <+: bs.drop (sz f.toNat + sz u.toNat + sz l.length) := by
  unfold encR at h
  rw [pre_app, pre_app, pre_app, List.drop_drop, List.drop_drop] at h
  exact h

theorem joins {x y m : Nat} {l : List Ov} {bs : List Int} (h1 : enc x <+: bs) (h2 : enc y <+: bs.drop (sz x)) (h3 : enc m <+: bs.drop (sz x + sz y)) (h4 : ens l <+: bs.drop (sz x + sz y + sz m)) :
    enc x ++ (enc y ++ (enc m ++ ens l)) <+: bs := by
  rw [pre_app, pre_app, pre_app, List.drop_drop, List.drop_drop]
  exact ⟨h1, h2, h3, h4⟩

/-- No run has these bytes. -/
def No (bs : List Int) : Prop := ∀ f u l, chk f u l = 0 → encR f u l ≠ bs

theorem no1 {bs : List Int} (h : ∀ x : Nat, x ≤ 1048576 → ¬ enc x <+: bs) : No bs := fun f u l hc he => by
  obtain ⟨h1, h2, h3, h4, h5⟩ := chk_zero hc
  exact h f.toNat (by omega) (parts (he ▸ List.prefix_rfl : encR f u l <+: bs)).1

theorem no2 {bs : List Int} {x : Nat} (hx : enc x <+: bs) (h : ∀ y : Nat, y ≤ 1048576 → ¬ enc y <+: bs.drop (sz x)) : No bs := fun f u l hc he => by
  obtain ⟨h1, h2, h3, h4, h5⟩ := chk_zero hc
  obtain ⟨p1, p2, _⟩ := parts (he ▸ List.prefix_rfl : encR f u l <+: bs)
  rw [← pre_one _ _ _ hx p1] at p2
  exact h u.toNat (by omega) p2

theorem no3 {bs : List Int} {x y M : Nat} (hx : enc x <+: bs) (hy : enc y <+: bs.drop (sz x)) (hM : 1024 ≤ M) (h : ∀ m : Nat, m ≤ M → ¬ enc m <+: bs.drop (sz x + sz y)) : No bs := fun f u l hc he => by
  obtain ⟨h1, h2, h3, h4, h5⟩ := chk_zero hc
  obtain ⟨p1, p2, p3, _⟩ := parts (he ▸ List.prefix_rfl : encR f u l <+: bs)
  rw [← pre_one _ _ _ hx p1] at p2 p3
  rw [← pre_one _ _ _ hy p2] at p3
  exact h l.length (by omega) p3

theorem no4 {bs : List Int} {x y m : Nat} {l : List Ov} (hx : enc x <+: bs) (hy : enc y <+: bs.drop (sz x)) (hm : enc m <+: bs.drop (sz x + sz y)) (hl : ens l <+: bs.drop (sz x + sz y + sz m)) (hc : ∀ o ∈ l, o.c = 0) (hlt : l.length < m)
    (h : ∀ o : Ov, o.c = 0 → ¬ opEnc o.p o.kl o.vl <+: bs.drop (sz x + sz y + sz m + (ens l).length)) : No bs := fun f u r hr he => by
  obtain ⟨h1, h2, h3, h4, h5⟩ := chk_zero hr
  obtain ⟨p1, p2, p3, p4⟩ := parts (he ▸ List.prefix_rfl : encR f u r <+: bs)
  rw [← pre_one _ _ _ hx p1] at p2 p3 p4
  rw [← pre_one _ _ _ hy p2] at p3 p4
  have e := pre_one _ _ _ hm p3
  rw [← e] at p4
  have hlr : l.length < r.length := by omega
  have hs : r = r.take l.length ++ (r[l.length] :: r.drop (l.length + 1)) := by rw [← List.drop_eq_getElem_cons hlr, List.take_append_drop]
  have hrc := may_c h5
  rw [hs, ens_app, pre_app] at p4
  have ht := ens_free l (r.take l.length) _ (by rw [List.length_take]; omega) hc (fun o ho => hrc o (List.mem_of_mem_take ho)) hl p4.1
  have p5 := p4.2
  rw [← ht, List.drop_drop] at p5
  exact h r[l.length] (hrc _ (List.getElem_mem hlr)) ((List.prefix_append _ (ens (r.drop (l.length + 1)))).trans p5)

theorem same5 {bs : List Int} {x y : Nat} {l : List Ov} (hx : enc x <+: bs) (hy : enc y <+: bs.drop (sz x)) (hm : enc l.length <+: bs.drop (sz x + sz y)) (hl : ens l <+: bs.drop (sz x + sz y + sz l.length)) (hc : ∀ o ∈ l, o.c = 0)
    {f u : Int} {r : List Ov} (hr : chk f u r = 0) (he : encR f u r <+: bs) : f = x ∧ u = y ∧ r = l := by
  obtain ⟨h1, h2, h3, h4, h5⟩ := chk_zero hr
  obtain ⟨p1, p2, p3, p4⟩ := parts he
  have ex := pre_one _ _ _ hx p1
  rw [← ex] at p2 p3 p4
  have ey := pre_one _ _ _ hy p2
  rw [← ey] at p3 p4
  have em := pre_one _ _ _ hm p3
  rw [← em] at p4
  exact ⟨by omega, by omega, (ens_free l r _ em hc (may_c h5) hl p4).symm⟩

theorem no5 {bs : List Int} {x y : Nat} {l : List Ov} (hx : enc x <+: bs) (hy : enc y <+: bs.drop (sz x)) (hm : enc l.length <+: bs.drop (sz x + sz y)) (hl : ens l <+: bs.drop (sz x + sz y + sz l.length)) (hc : ∀ o ∈ l, o.c = 0)
    (h : sz x + sz y + sz l.length + (ens l).length ≠ bs.length ∨ chk x y l ≠ 0) : No bs := fun f u r hr he => by
  obtain ⟨rfl, rfl, rfl⟩ := same5 hx hy hm hl hc hr (he ▸ List.prefix_rfl)
  rcases h with h | h
  · apply h
    rw [← he]
    unfold encR
    rw [List.length_append, List.length_append, List.length_append]
    simp [sz]
    omega
  · exact h hr

theorem ok5 {bs : List Int} {x y : Nat} {l : List Ov} (hx : enc x <+: bs) (hy : enc y <+: bs.drop (sz x)) (hm : enc l.length <+: bs.drop (sz x + sz y)) (hl : ens l <+: bs.drop (sz x + sz y + sz l.length))
    (h : sz x + sz y + sz l.length + (ens l).length = bs.length) : encR x y l = bs := by
  refine (joins hx hy hm hl).eq_of_length ?_
  rw [List.length_append, List.length_append, List.length_append, ← h]
  unfold sz
  omega

theorem encR_one {f u f' u' : Int} {l l' : List Ov} {bs : List Int} (h : chk f u l = 0) (h' : chk f' u' l' = 0) (he : encR f u l <+: bs) (he' : encR f' u' l' <+: bs) : f' = f ∧ u' = u ∧ l' = l := by
  obtain ⟨h1, h2, h3, h4, h5⟩ := chk_zero h
  obtain ⟨p1, p2, p3, p4⟩ := parts he
  obtain ⟨e1, e2, e3⟩ := same5 p1 p2 p3 p4 (may_c h5) h' he'
  exact ⟨by omega, by omega, e3⟩

/-- What Decode answers. -/
def Dc (bs : List Int) (f u : Int) (l : List Ov) (g : Int) : Prop := (g = 0 ∧ chk f u l = 0 ∧ encR f u l = bs) ∨ (g = 5 ∧ f = 0 ∧ u = 0 ∧ l = [] ∧ No bs)

theorem dc_one {bs : List Int} {f u f' u' g g' : Int} {l l' : List Ov} (h : Dc bs f u l g) (k : Dc bs f' u' l' g') : f = f' ∧ u = u' ∧ l = l' ∧ g = g' := by
  rcases h with ⟨rfl, h1, h2⟩ | ⟨rfl, rfl, rfl, rfl, h1⟩
  · rcases k with ⟨rfl, k1, k2⟩ | ⟨rfl, rfl, rfl, rfl, k1⟩
    · obtain ⟨a, b, c⟩ := encR_one k1 h1 (bs := bs) (k2 ▸ List.prefix_rfl) (h2 ▸ List.prefix_rfl)
      exact ⟨a, b, c, rfl⟩
    · exact absurd h2 (k1 _ _ _ h1)
  · rcases k with ⟨rfl, k1, k2⟩ | ⟨rfl, rfl, rfl, rfl, k1⟩
    · exact absurd k2 (h1 _ _ _ k1)
    · exact ⟨rfl, rfl, rfl, rfl⟩

theorem dc_enc {f u : Int} {l : List Ov} (h : chk f u l = 0) : Dc (encR f u l) f u l 0 := .inl ⟨rfl, h, rfl⟩

theorem dc_e {bs : List Int} {f u g : Int} {l : List Ov} (h : Dc bs f u l g) : g = 0 ∨ g = 5 := by
  rcases h with ⟨rfl, _⟩ | ⟨rfl, _⟩
  · exact .inl rfl
  · exact .inr rfl

theorem dc_len {bs : List Int} {f u g : Int} {l : List Ov} (h : Dc bs f u l g) : l.length ≤ 1024 ∧ (0 ≤ f ∧ f ≤ 1048576) ∧ (0 ≤ u ∧ u ≤ 1048576) ∧ ∀ o ∈ l, o.c = 0 := by
  rcases h with ⟨rfl, h, _⟩ | ⟨rfl, rfl, rfl, rfl, _⟩
  · obtain ⟨h1, h2, h3, h4, h5⟩ := chk_zero h
    exact ⟨h1, by omega, by omega, may_c h5⟩
  · exact ⟨by simp, by omega, by omega, by simp⟩

end Go.Proofs.YthmecljkackmbaaGreat.Rn

/- Frames as lists of numbers: what a frame is, what Read answers, what Scan answers. No program. -/
namespace Go.Proofs.YthmecljkackmbaaGreat
set_option linter.unusedVariables false
namespace Fm

/-- A record's frame. -/
def frm (r : List Int) : List Int := Vm.enc r.length ++ r

theorem frm_len (r : List Int) : (frm r).length = Vm.sz r.length + r.length := by unfold frm Vm.sz; rw [List.length_append]
theorem frm_pos (r : List Int) : 1 ≤ (frm r).length := by have := Vm.sz_pos r.length; rw [frm_len]; omega

theorem sz3 {n : Nat} (h : n ≤ 131072) : Vm.sz n ≤ 3 := Vm.sz_le 2 n (by omega)

theorem frm_one {r s bs : List Int} (h : frm r <+: bs) (h' : frm s <+: bs) : r = s := by
  obtain ⟨t, ht⟩ := h
  obtain ⟨u, hu⟩ := h'
  unfold frm at ht hu
  have hl : r.length = s.length := Vm.pre_one bs _ _ ⟨r ++ t, by rw [← List.append_assoc]; exact ht⟩ ⟨s ++ u, by rw [← List.append_assoc]; exact hu⟩
  rw [← hu, hl, List.append_assoc, List.append_assoc] at ht
  have := List.append_cancel_left ht
  exact (List.append_inj this hl).1

/-- What Read answers: the record, the frame's length, the error. -/
def Rd (bs r : List Int) (n : Nat) (e : Int) : Prop :=
  (e = 0 ∧ r.length ≤ 131072 ∧ n = Vm.sz r.length + r.length ∧ frm r <+: bs) ∨ (e = 5 ∧ r = [] ∧ n = 0 ∧ ∀ s : List Int, s.length ≤ 131072 → ¬ frm s <+: bs)

theorem rd_one {bs r s : List Int} {n m : Nat} {e f : Int} (h : Rd bs r n e) (h' : Rd bs s m f) : r = s ∧ n = m ∧ e = f := by
  rcases h with ⟨rfl, h1, h2, h3⟩ | ⟨rfl, rfl, rfl, h3⟩ <;> rcases h' with ⟨rfl, g1, g2, g3⟩ | ⟨rfl, rfl, rfl, g3⟩
  · have := frm_one h3 g3
    subst this
    exact ⟨rfl, by omega, rfl⟩
  · exact absurd h3 (g3 _ h1)
  · exact absurd g3 (h3 _ g1)
  · exact ⟨rfl, rfl, rfl⟩

theorem rd_is (bs : List Int) : ∃ r n e, Rd bs r n e := by
  by_cases h : ∃ s : List Int, s.length ≤ 131072 ∧ frm s <+: bs
  · obtain ⟨s, h1, h2⟩ := h
    exact ⟨s, _, 0, .inl ⟨rfl, h1, rfl, h2⟩⟩
  · exact ⟨[], 0, 5, .inr ⟨rfl, rfl, rfl, fun s h1 h2 => h ⟨s, h1, h2⟩⟩⟩

/-- The count's bytes stand ahead, and then enough. -/
theorem frm_of {bs : List Int} {x : Nat} (h : Vm.enc x <+: bs) (hx : x ≤ bs.length - Vm.sz x) : ((bs.drop (Vm.sz x)).take x).length = x ∧ frm ((bs.drop (Vm.sz x)).take x) <+: bs := by
  have hl : ((bs.drop (Vm.sz x)).take x).length = x := by rw [List.length_take, List.length_drop]; omega
  refine ⟨hl, ?_⟩
  obtain ⟨t, ht⟩ := h
  have hd : bs.drop (Vm.sz x) = t := by rw [← ht]; exact List.drop_left
  unfold frm
  rw [hl]
  rw [hd] at *
  exact ⟨t.drop x, by rw [List.append_assoc, List.take_append_drop]; exact ht⟩

theorem frm_pre {bs r : List Int} (h : frm r <+: bs) : Vm.enc r.length <+: bs ∧ r.length ≤ bs.length - Vm.sz r.length ∧ Vm.sz r.length + r.length ≤ bs.length := by
  have hl := h.length_le
  rw [frm_len] at hl
  refine ⟨(List.prefix_append _ _).trans h, by omega, hl⟩

/-- Frames one behind the other. -/
def cat : List (List Int) → List Int
  | [] => []
  | r :: l => frm r ++ cat l

theorem cat_app : ∀ (l m : List (List Int)), cat (l ++ m) = cat l ++ cat m
  | [], m => rfl
  | r :: l, m => by simp [cat, cat_app l m]

theorem cat_one (r : List Int) : cat [r] = frm r := by simp [cat]

theorem cat_len : ∀ l : List (List Int), l.length ≤ (cat l).length
  | [] => Nat.zero_le _
  | r :: l => by
    have := cat_len l
    have := frm_pos r
    simp [cat]
    omega

/-- What Scan answers: whole frames one behind the other, and none behind them. -/
def Sc (bs : List Int) (l : List (List Int)) : Prop :=
  (∀ r ∈ l, r.length ≤ 131072) ∧ cat l <+: bs ∧ ∀ s : List Int, s.length ≤ 131072 → ¬ frm s <+: bs.drop (cat l).length

theorem drop_pre {a b c : List Int} (h : a ++ b <+: c) : b <+: c.drop a.length := by
  obtain ⟨t, ht⟩ := h
  rw [← ht, List.append_assoc, List.drop_left]
  exact List.prefix_append _ _

theorem pre_drop {a b c : List Int} (h : a <+: c) (h' : b <+: c.drop a.length) : a ++ b <+: c := by
  obtain ⟨t, rfl⟩ := h
  rw [List.drop_left] at h'
  obtain ⟨u, rfl⟩ := h'
  exact ⟨u, by rw [List.append_assoc]⟩

theorem sc_tail {bs r : List Int} {l : List (List Int)} (h : Sc bs (r :: l)) : r.length ≤ 131072 ∧ frm r <+: bs ∧ Sc (bs.drop (frm r).length) l := by
  obtain ⟨h1, h2, h3⟩ := h
  refine ⟨h1 r (by simp), (List.prefix_append _ _).trans h2, fun s hs => h1 s (by simp [hs]), drop_pre h2, fun s hs => ?_⟩
  rw [List.drop_drop, ← List.length_append]
  exact h3 s hs

theorem sc_one : ∀ {l m : List (List Int)} {bs : List Int}, Sc bs l → Sc bs m → l = m
  | [], [], _, _, _ => rfl
  | [], r :: m, bs, h, h' => by
    obtain ⟨h1, h2, _⟩ := sc_tail h'
    exact absurd h2 (by simpa [cat] using h.2.2 r h1)
  | r :: l, [], bs, h, h' => by
    obtain ⟨h1, h2, _⟩ := sc_tail h
    exact absurd h2 (by simpa [cat] using h'.2.2 r h1)
  | r :: l, s :: m, bs, h, h' => by
    obtain ⟨_, h2, h3⟩ := sc_tail h
    obtain ⟨_, g2, g3⟩ := sc_tail h'
    have e := frm_one h2 g2
    subst e
    rw [sc_one h3 g3]

theorem sc_is (bs : List Int) : ∃ l, Sc bs l := by
  suffices h : ∀ n (bs : List Int), bs.length ≤ n → ∃ l, Sc bs l from h _ bs (Nat.le_refl _)
  intro n
  induction n with
  | zero =>
    intro bs hb
    refine ⟨[], by simp, by simp [cat], fun s _ h => ?_⟩
    have h1 := h.length_le
    have h2 := frm_pos s
    rw [List.length_drop] at h1
    omega
  | succ n ih =>
    intro bs hb
    by_cases h : ∃ s : List Int, s.length ≤ 131072 ∧ frm s <+: bs
    · obtain ⟨s, h1, h2⟩ := h
      have hp := frm_pos s
      obtain ⟨l, g1, g2, g3⟩ := ih (bs.drop (frm s).length) (by rw [List.length_drop]; omega)
      refine ⟨s :: l, ?_, pre_drop h2 g2, fun t ht => ?_⟩
      · intro r hr
        rcases List.mem_cons.1 hr with rfl | hr
        · exact h1
        · exact g1 r hr
      · have := g3 t ht
        rw [List.drop_drop, ← List.length_append] at this
        exact this
    · exact ⟨[], by simp, by simp [cat], fun s h1 h2 => h ⟨s, h1, by simpa [cat] using h2⟩⟩

/-- One frame more. -/
theorem sc_next {bs r : List Int} {l : List (List Int)} (h : cat l <+: bs) (h' : frm r <+: bs.drop (cat l).length) : cat (l ++ [r]) <+: bs ∧ (cat (l ++ [r])).length = (cat l).length + (Vm.sz r.length + r.length) := by
  rw [cat_app, cat_one]
  exact ⟨pre_drop h h', by rw [List.length_append, frm_len]⟩

/-- Where the frames begin. -/
def plc (a : Nat) : List (List Int) → List Nat
  | [] => []
  | r :: l => a :: plc (a + (Vm.sz r.length + r.length)) l

theorem plc_len : ∀ (l : List (List Int)) (a : Nat), (plc a l).length = l.length
  | [], _ => rfl
  | r :: l, a => by simp [plc, plc_len l]

theorem plc_at : ∀ (l : List (List Int)) (a k : Nat), k < l.length → (plc a l)[k]? = some (a + (cat (l.take k)).length)
  | [], _, _, h => by simp at h
  | r :: l, a, 0, _ => by simp [plc, cat]
  | r :: l, a, k + 1, h => by
    simp only [plc, List.getElem?_cons_succ, List.take_succ_cons, cat, List.length_append]
    rw [plc_at l _ k (by simpa using h), frm_len]
    congr 1
    omega

theorem plc_snoc : ∀ (l : List (List Int)) (r : List Int) (a : Nat), plc a (l ++ [r]) = plc a l ++ [a + (cat l).length]
  | [], r, a => by simp [plc, cat]
  | s :: l, r, a => by
    simp only [List.cons_append, plc, plc_snoc l, cat, List.length_append, frm_len]
    rw [Nat.add_assoc a]

theorem cat_take_le (l : List (List Int)) (k : Nat) : (cat (l.take k)).length ≤ (cat l).length := by
  have : cat l = cat (l.take k) ++ cat (l.drop k) := by rw [← cat_app, List.take_append_drop]
  rw [this, List.length_append]
  omega

/-- A first part of frames: those that lie in it whole are what Scan answers. -/
theorem sc_cut : ∀ {l : List (List Int)} {k n : Nat}, (∀ r ∈ l, r.length ≤ 131072) → n ≤ l.length → (cat (l.take n)).length ≤ k → (n < l.length → k < (cat (l.take (n + 1))).length) → k ≤ (cat l).length → Sc ((cat l).take k) (l.take n) := by
  intro l k n hw hn hk hk' hkl
  have e1 : cat l = cat (l.take n) ++ cat (l.drop n) := by rw [← cat_app, List.take_append_drop]
  have e2 : (cat l).take k = cat (l.take n) ++ (cat (l.drop n)).take (k - (cat (l.take n)).length) := by
    rw [e1, List.take_append]
    rw [List.take_of_length_le hk]
  refine ⟨fun r hr => hw r (List.mem_of_mem_take hr), by rw [e2]; exact List.prefix_append _ _, fun s hs h => ?_⟩
  rw [e2, List.drop_left] at h
  by_cases hlt : n < l.length
  · have hd : l.drop n = l[n] :: l.drop (n + 1) := List.drop_eq_getElem_cons hlt
    have h2 := h.trans (List.take_prefix _ _)
    rw [hd, cat] at h2
    have e3 : s = l[n] := frm_one h2 (List.prefix_append _ _)
    have h3 := h.length_le
    rw [List.length_take] at h3
    have h4 := hk' hlt
    rw [List.take_succ_eq_append_getElem hlt, cat_app, cat_one, List.length_append, ← e3] at h4
    omega
  · have hd : l.drop n = [] := List.drop_eq_nil_of_le (by omega)
    rw [hd, cat, List.take_nil] at h
    have h1 := h.length_le
    have h2 := frm_pos s
    rw [List.length_nil] at h1
    omega

theorem sc_all {l : List (List Int)} (hw : ∀ r ∈ l, r.length ≤ 131072) : Sc (cat l) l := by
  refine ⟨hw, List.prefix_refl _, fun s hs h => ?_⟩
  rw [List.drop_length] at h
  have h1 := h.length_le
  have h2 := frm_pos s
  rw [List.length_nil] at h1
  omega

end Fm
end Go.Proofs.YthmecljkackmbaaGreat

/- Disks, by mathematics. No program. -/
namespace Go.Proofs.YthmecljkackmbaaGreat.Dm
set_option linter.unusedVariables false

/-- A raw step that is pending. -/
structure Rw where
  file : Nat
  cut : Bool
  to : Nat
  bytes : List Int

/-- A disk: what is durable, what is pending; is it on; its fuse; how many raw steps it has done. -/
structure Ds where
  sure : Nat → List Int
  wait : List Rw
  on : Bool
  has : Bool
  left : Nat
  count : Nat

def upd (s : Nat → List Int) (f : Nat) (x : List Int) : Nat → List Int := fun j => if j = f then x else s j

theorem upd_same (s : Nat → List Int) (f : Nat) (x : List Int) : upd s f x f = x := by simp [upd]
theorem upd_other {s : Nat → List Int} {f j : Nat} {x : List Int} (h : j ≠ f) : upd s f x j = s j := by simp [upd, h]

/-- Bytes behind a raw step. -/
def wth (b : List Int) (r : Rw) : List Int := if r.cut then b.take r.to else b ++ r.bytes

def one (s : Nat → List Int) (r : Rw) : Nat → List Int := upd s r.file (wth (s r.file) r)

/-- All of them done, in order. -/
def dof (s : Nat → List Int) : List Rw → Nat → List Int
  | [] => s
  | r :: l => dof (one s r) l

theorem dof_app : ∀ (l m : List Rw) (s : Nat → List Int), dof s (l ++ m) = dof (dof s l) m
  | [], _, _ => rfl
  | r :: l, m, s => dof_app l m (one s r)

theorem dof_snoc (l : List Rw) (r : Rw) (s : Nat → List Int) : dof s (l ++ [r]) = one (dof s l) r := dof_app l [r] s

/-- One file's bytes behind the steps of that file. -/
def hold (f : Nat) (b : List Int) : List Rw → List Int
  | [] => b
  | r :: l => hold f (if r.file = f then wth b r else b) l

theorem hold_dof : ∀ (l : List Rw) (s : Nat → List Int) (f : Nat), hold f (s f) l = dof s l f
  | [], _, _ => rfl
  | r :: l, s, f => by
    rw [hold, dof, ← hold_dof l (one s r) f]
    congr 1
    by_cases h : r.file = f
    · subst h; rw [if_pos rfl, one, upd_same]
    · rw [if_neg h, one, upd_other (Ne.symm h)]

theorem hold_app : ∀ (l m : List Rw) (b : List Int) (f : Nat), hold f b (l ++ m) = hold f (hold f b l) m
  | [], _, _, _ => rfl
  | r :: l, m, b, f => hold_app l m _ f

theorem hold_snoc (l : List Rw) (r : Rw) (b : List Int) (f : Nat) : hold f b (l ++ [r]) = if r.file = f then wth (hold f b l) r else hold f b l := hold_app l [r] b f

/-- A raw step that fits what stands ahead of it. -/
def fits (s : Nat → List Int) (r : Rw) : Prop := r.file < 4 ∧ (r.cut = true → r.to ≤ (s r.file).length) ∧ (r.cut = false → 1 ≤ r.bytes.length ∧ r.bytes.length ≤ 64)

def valid (s : Nat → List Int) : List Rw → Prop
  | [] => True
  | r :: l => fits s r ∧ valid (one s r) l

theorem valid_app : ∀ (l m : List Rw) (s : Nat → List Int), valid s (l ++ m) ↔ valid s l ∧ valid (dof s l) m
  | [], _, _ => by simp [valid, dof]
  | r :: l, m, s => by simp [valid, dof, valid_app l m, and_assoc]

theorem valid_at {l : List Rw} {s : Nat → List Int} (h : valid s l) {k : Nat} {r : Rw} (hk : l[k]? = some r) : fits (dof s (l.take k)) r := by
  obtain ⟨hlt, rfl⟩ := List.getElem?_eq_some_iff.1 hk
  rw [← List.take_append_drop k l, valid_app, List.drop_eq_getElem_cons hlt] at h
  exact h.2.1

/-- How many bytes are pending. -/
def bulk : List Rw → Nat
  | [] => 0
  | r :: l => r.bytes.length + bulk l

theorem bulk_app : ∀ (l m : List Rw), bulk (l ++ m) = bulk l + bulk m
  | [], _ => by simp [bulk]
  | r :: l, m => by simp [bulk, bulk_app l m]; omega

theorem wth_len (b : List Int) (r : Rw) : (wth b r).length ≤ b.length + r.bytes.length := by
  unfold wth
  split
  · rw [List.length_take]; omega
  · simp

theorem hold_len : ∀ (l : List Rw) (b : List Int) (f : Nat), (hold f b l).length ≤ b.length + bulk l
  | [], _, _ => by simp [hold, bulk]
  | r :: l, b, f => by
    have h1 := hold_len l (if r.file = f then wth b r else b) f
    have h2 := wth_len b r
    simp only [hold, bulk]
    split at h1 <;> simp_all <;> omega

/-- No file, nor what is pending, has more than t bytes in all; no more than u raw steps. -/
def Sz (t u : Nat) (st : Ds) : Prop := (∀ f, (st.sure f).length + bulk st.wait ≤ t) ∧ st.wait.length ≤ u ∧ st.count ≤ u

def Ok (st : Ds) : Prop := valid st.sure st.wait

/-- One raw step is allowed, or the disk goes off. -/
def off (st : Ds) : Bool := st.has && st.left == 0
def burn (st : Ds) : Ds := { st with left := if st.has then st.left - 1 else st.left, count := st.count + 1 }
def dark (st : Ds) : Ds := { st with on := false }
def push (st : Ds) (r : Rw) : Ds := { st with wait := st.wait ++ [r] }

/-- The raw writes of a Write, piece by piece (n: as many bytes at the most). -/
def wrt (file : Nat) : Nat → Ds → List Int → Int × Ds
  | 0, st, _ => (0, st)
  | n + 1, st, bs => if bs = [] then (0, st) else if off st then (6, dark st) else wrt file n (push (burn st) ⟨file, false, 0, bs.take 64⟩) (bs.drop 64)

def inF (file : Int) : Bool := decide (0 ≤ file) && decide (file < 4)

def write (st : Ds) (file : Int) (bs : List Int) : Int × Ds := if st.on = false then (6, st) else if inF file = false then (2, st) else wrt file.toNat bs.length st bs
def cutD (st : Ds) (file len : Int) : Int × Ds := if st.on = false then (6, st) else if inF file = false then (2, st) else if len < 0 ∨ (hold file.toNat (st.sure file.toNat) st.wait).length < len then (2, st) else if off st then (6, dark st) else (0, push (burn st) ⟨file.toNat, true, len.toNat, []⟩)
def flush (st : Ds) : Ds := { st with sure := dof st.sure st.wait, wait := [] }
def sync (st : Ds) : Int × Ds := if st.on = false then (6, st) else if off st then (6, dark st) else (0, flush (burn st))
def fuse (st : Ds) (n : Int) : Int × Ds := if st.on = false then (6, st) else if n < 0 then (2, st) else (0, { st with has := true, left := n.toNat })
def safe (st : Ds) : Int × Ds := if st.on = false then (6, st) else (0, { st with has := false })
def pull (st : Ds) : Int × Ds := if st.on = false then (6, st) else (0, dark st)

/-- What stands of the steps when it is on again with k and t. -/
def kept (st : Ds) (k t : Nat) : Nat → List Int :=
  match st.wait[k]? with
  | some r => if r.cut then dof st.sure (st.wait.take k) else one (dof st.sure (st.wait.take k)) ⟨r.file, false, 0, r.bytes.take (min t (r.bytes.length - 1))⟩
  | none => dof st.sure (st.wait.take k)
def start (st : Ds) (k t : Int) : Int × Ds := if st.on = true ∨ k < 0 ∨ t < 0 then (2, st) else (0, { st with sure := kept st k.toNat t.toNat, wait := [], has := false, on := true })

def new : Ds := ⟨fun _ => [], [], true, false, 0, 0⟩

end Go.Proofs.YthmecljkackmbaaGreat.Dm
