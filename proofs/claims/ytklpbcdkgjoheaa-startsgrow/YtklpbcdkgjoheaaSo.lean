/- The contract of the laws' logs ('log'): epochs that rise by two or stay, behind a first part. -/
import Derived.Test.YtklpbcdkgjoheaaCq
import Derived.Test.YtklpbcdkgjoheaaFrs
namespace Go.Proofs.Ytklpbcdkgjoheaa
open Go.RowKit
set_option linter.unusedVariables false

def kO : Bm.Ov := ⟨true, ⟨#[107]⟩, ⟨#[]⟩⟩

/-- What is laid behind: from the epoch ep and the number n on. -/
def lg (ep : Int) (n : Nat) : List Bool → List Cm.Cv
  | [] => []
  | b :: r => ⟨if b then ep + 2 else ep, (n : Int) + 1, [kO]⟩ :: lg (if b then ep + 2 else ep) (n + 1) r

theorem lg_cons (ep : Int) (n : Nat) (b : Bool) (r : List Bool) : lg ep n (b :: r) = ⟨if b then ep + 2 else ep, (n : Int) + 1, [kO]⟩ :: lg (if b then ep + 2 else ep) (n + 1) r := rfl

theorem lg_len : ∀ (bs : List Bool) (ep : Int) (n : Nat), (lg ep n bs).length = bs.length
  | [], _, _ => rfl
  | b :: r, ep, n => by simp [lg, lg_len r]

theorem kO_ok : Bm.chkL [kO] = 0 := by decide

theorem kO_fit : FitO [kO] := fun o ho => by rw [List.mem_singleton.1 ho]; exact ⟨by decide, by decide⟩

theorem lg_good : ∀ (bs : List Bool) (ep ep0 : Int) (n : Nat), ep0 ≤ ep → 1 ≤ ep → ep + 2 * bs.length ≤ 1048576 → n + bs.length ≤ 1048576 → Cm.Good ep0 n (lg ep n bs)
  | [], _, _, _, _, _, _, _ => trivial
  | b :: r, ep, ep0, n, h0, h1, h2, h3 => by
    simp only [List.length_cons] at h2 h3
    have hb : ep ≤ (if b then ep + 2 else ep) ∧ (if b then ep + 2 else ep) ≤ ep + 2 := by split <;> omega
    generalize hx : (if b then ep + 2 else ep) = x at hb
    have ih := lg_good r x x (n + 1) (Int.le_refl _) (by omega) (by push_cast at h2; omega) (by omega)
    unfold lg
    rw [hx]
    have h5 : Cm.chk x ((n : Int) + 1) [kO] = 0 := by
      rw [Cm.chk_in (by push_cast at h2; exact ⟨by omega, by omega, by omega, by omega⟩)]
      exact kO_ok
    have h6 : (n : Int) + 1 - 1 = n := by omega
    have h7 : ep0 ≤ x := by omega
    exact ⟨h5, h6, h7, by simpa using ih⟩

theorem cvs_app (r s : List Cw) : cvs (r ++ s) = cvs r ++ cvs s := by unfold cvs; rw [List.map_append]

/-- What the commits of a log are fit for. -/
def LgI (rs : List Cw) : Prop := ∀ c ∈ rs, In64 c.e ∧ In64 c.n ∧ FitO c.l ∧ c.l.length * 40 ≤ 140737488351232

theorem lgI_of {rs r : List Cw} {w : World} (he : cvs rs = cvs r) (hr : InC w r) (hf : FitC r) : LgI rs := by
  intro c hc
  obtain ⟨k, hk⟩ := List.getElem?_of_mem hc
  obtain ⟨d, hd, e1, e2, e3⟩ := cvs_at he hk
  have hm := List.mem_of_getElem? hd
  rw [e1, e2, e3]
  exact ⟨(hr d hm).2.1, (hr d hm).2.2, (hf d hm).1, (hf d hm).2⟩

theorem drop_bool {bs : List Bool} {k : Nat} {b : Bool} (h : bs[k]? = some b) : bs.drop k = b :: bs.drop (k + 1) := by
  have hk := (List.getElem?_eq_some_iff.1 h).1
  rw [List.drop_eq_getElem_cons hk, (List.getElem?_eq_some_iff.1 h).2]

theorem lg_step {base L k : Nat} {w : World} {v : Value} {rs : List Cw} {c : Cw} {x : Int} {bs : List Bool} {u : List Cm.Cv} (ho : OwnR 40 base w v (rs ++ [c])) (hp : CopyR base w rs) (hc : OwnO 73 base w c.v c.l) (hi : LgI (rs ++ [c])) (hl : rs.length = L) (he : cvs (rs ++ [c]) ++ lg x (L + 1) (bs.drop (k + 1)) = u) :
    OwnR 40 base w v (rs ++ [c]) ∧ CopyR base w (rs ++ [c]) ∧ LgI (rs ++ [c]) ∧ cvs (rs ++ [c]) ++ lg x (rs ++ [c]).length (bs.drop (k + 1)) = u :=
  ⟨ho, hp.snoc hc, hi, by rw [List.length_append, hl]; exact he⟩

set_option maxRecDepth 100000 in
set_option maxHeartbeats 2000000 in
theorem log_any (vf : Value) (rf : List Cw) (ep0 : Int) (vs : Value) (bs : List Bool) (w : World) (h : IsC w vf rf) (hf : FitC rf) (hl : rf.length ≤ 100) (hb : RowG bolc w vs bs) (hbl : bs.length ≤ 40) (he : 0 ≤ ep0) (he' : ep0 ≤ 1000) :
    Calls Try.prog 30 #[vf, .int .i64 ep0, vs] w fun E w' => ∃ v r, E = .returned v ∧ IsC w' v r ∧ FitC r ∧ cvs r = cvs rf ++ lg ep0 rf.length bs ∧ Below w.heap.size w w' := by
  obtain ⟨aS, cS, hvs, hcs, _⟩ := hb.shape
  have HB := hide hb
  have HL0 := hide (fun rs (e : cvs rs = cvs rf) => lgI_of e h.2 hf)
  have HLN := hide (fun rs (e : cvs rs = cvs rf) => cvs_len e)
  have X := hide (copyCs_any vf rf w h hf (by omega))
  have HC : Hid (0 < bs.length → ∃ b off cap, vs = .slice (some ⟨b, off, none⟩) bs.length cap ∧ b < w.heap.size ∧ ∀ (i : Nat) (a : Bool), bs[i]? = some a → w.cell? ⟨b, off + i, none⟩ = some (.bool a)) := hide fun hne => by
    obtain ⟨b, off, cap, h1, _, _, h4, h5⟩ := rowB_full hb hne
    exact ⟨b, off, cap, h1, h4, h5⟩
  subst hvs
  generalize hn : bs.length = n at *
  have HN := hide hn
  clear h hf hb hn
  go_enter Try.func30, Try.ntmps30
  go_wp2_with fail
  refine X.out.mono ?_
  rintro E w1 ⟨v1, rs1, rfl, own1, e1, cp1, bel1⟩
  have I0 : Hid (OwnR 40 w.heap.size w1 v1 rs1 ∧ CopyR w.heap.size w1 rs1 ∧ LgI rs1 ∧ cvs rs1 ++ lg ep0 rs1.length (bs.drop 0) = cvs rf ++ lg ep0 rf.length bs) := hide ⟨own1, cp1, HL0.out _ e1, by rw [e1, HLN.out _ e1]; rfl⟩
  have hl1 : rs1.length ≤ 100 + 0 := by rw [HLN.out _ e1]; omega
  clear own1 cp1 e1 X HL0 HLN
  go_wp2
  go_loopw [1, 7, 8] (fun ev ov iv wr => ∃ (k : Nat) (ep : Int) (rs : List Cw), k ≤ n ∧ iv = .int .i64 k ∧ ev = .int .i64 ep ∧ 0 ≤ ep ∧ ep ≤ 1000 + 2 * k ∧ rs.length ≤ 100 + k ∧ Hid (OwnR 40 w.heap.size wr ov rs ∧ CopyR w.heap.size wr rs ∧ LgI rs ∧ cvs rs ++ lg ep rs.length (bs.drop k) = cvs rf ++ lg ep0 rf.length bs) ∧ Below w.heap.size w wr) (fun _ _ iv _ => n - (intOf iv).toNat)
  case atStart => exact ⟨0, ep0, rs1, by omega, rfl, rfl, he, by omega, hl1, I0, bel1⟩
  case round =>
    obtain ⟨k, ep, rs, hk, rfl, rfl, p0, p1, hrl, HT, bel⟩ := hrel
    have sz := bel.size
    by_cases hlt : k < n
    · obtain ⟨b, off, cap, hvs, hB, hcell⟩ := HC.out (by omega)
      have has : aS = some ⟨b, off, none⟩ := by simp at hvs; exact hvs.1
      subst has
      obtain ⟨y, hy⟩ := at_of (l := bs) (k := k) (by have := HN.out; omega)
      have d0 := (bel.cell (p := ⟨b, off + k, none⟩) hB).trans (hcell k y hy)
      have HD := hide (drop_bool hy)
      have hlt' : (k : Int) < n := by omega
      obtain ⟨hO, hP, hI, hE⟩ := HT.out
      obtain ⟨ao, co, hov, _, _⟩ := hO.row.shape
      subst hov
      obtain ⟨x, hx⟩ : ∃ x, (if y then ep + 2 else ep) = x := ⟨_, rfl⟩
      have hx0 : 0 ≤ x ∧ x ≤ ep + 2 := by rw [← hx]; split <;> omega
      obtain ⟨w2, hw2, sz2, bel2, own2⟩ := ops_step 73 wr #[.bool true, .string ⟨#[107]⟩, .string ⟨#[]⟩] 1 [kO] rfl rfl (by simp [maxLen])
      obtain ⟨w3, hw3, sz3, bel3, own3⟩ := coms_step 40 w2 #[.int .i64 x, .int .i64 ((rs.length : Int) + 1), .slice (some ⟨wr.heap.size, 0, none⟩) 1 1] 1 [⟨x, (rs.length : Int) + 1, .slice (some ⟨wr.heap.size, 0, none⟩) 1 1, [kO]⟩] rfl rfl (by simp [maxLen])
      have bel23 : Below wr.heap.size wr w3 := bel2.trans (bel3.mono (by omega))
      have hO3 := hO.below bel23
      have HP := hide (hP.below bel23)
      have own23 := hide ((own2.below bel3).rebase (base' := w.heap.size) (by omega))
      have HLK : Hid ((rs.length + [(⟨x, (rs.length : Int) + 1, .slice (some ⟨wr.heap.size, 0, none⟩) 1 1, [kO]⟩ : Cw)].length) * 40 ≤ 140737488355328) := hide (by rw [List.length_singleton]; omega)
      have bel03 : Below w.heap.size w w3 := bel.trans (bel23.mono (by omega))
      have h64x : In64 x := ⟨by omega, by omega⟩
      have h64n : In64 ((rs.length : Int) + 1) := ⟨by omega, by omega⟩
      have I3 : Hid (LgI (rs ++ [⟨x, (rs.length : Int) + 1, .slice (some ⟨wr.heap.size, 0, none⟩) 1 1, [kO]⟩])) := hide (by
        intro c hc
        rcases List.mem_append.1 hc with hc | hc
        · exact hI c hc
        · rw [List.mem_singleton.1 hc]
          exact ⟨h64x, h64n, kO_fit, (by decide : [kO].length * 40 ≤ 140737488351232)⟩)
      have E3 : Hid (cvs (rs ++ [⟨x, (rs.length : Int) + 1, .slice (some ⟨wr.heap.size, 0, none⟩) 1 1, [kO]⟩]) ++ lg x (rs.length + 1) (bs.drop (k + 1)) = cvs rf ++ lg ep0 rf.length bs) := hide (by
        rw [← hE, HD.out, cvs_app, List.append_assoc]
        rw [lg_cons, hx]
        rfl)
      rw [sz2] at own3
      have own3r := own3.row
      generalize hL : rs.length = L at *
      have HLL := hide hL
      clear HT hO hP hE hI hy HD hcell hvs bel2 bel3 bel23 own2 own3 bel hL
      cases y
      · simp only [Bool.false_eq_true, if_false] at hx
        subst hx
        go_wp2_with (at_builtin; refine wpList_append_coms rfl (.tmp 23) (.tmp 31) 37 rfl 40 w.heap.size Try.underlying37 Try.info40 _ rs rfl hO3 _ _ rfl own3r (by intro c hc; rw [List.mem_singleton.1 hc]; rfl) (by have := HLK.out; rw [HLL.out]; exact this) (by omega) ?_)
        intro v4 w4 own4 bel4 kp4
        have HT2 := hide (lg_step own4 (HP.out.keepT kp4) (own23.out.keepT kp4 (by decide)) I3.out HLL.out E3.out)
        have HL2 : Hid (∀ c : Cw, (rs ++ [c]).length ≤ 100 + (k + 1)) := hide fun c => by rw [List.length_append, HLL.out, List.length_singleton]; omega
        have bel04 := bel03.trans bel4
        clear own4 kp4 own23 own3r hO3 HP I3 E3 bel03 bel4 HLK
        go_wp2
        go_roundw
        case rel => exact ⟨k + 1, _, _, by omega, by go_num, rfl, by omega, by omega, HL2.out _, HT2, bel04⟩
        case measure => simp [intOf]; omega
      · simp only [if_true] at hx
        subst hx
        go_wp2_with (at_builtin; refine wpList_append_coms rfl (.tmp 23) (.tmp 31) 37 rfl 40 w.heap.size Try.underlying37 Try.info40 _ rs rfl hO3 _ _ rfl own3r (by intro c hc; rw [List.mem_singleton.1 hc]; rfl) (by have := HLK.out; rw [HLL.out]; exact this) (by omega) ?_)
        intro v4 w4 own4 bel4 kp4
        have HT2 := hide (lg_step own4 (HP.out.keepT kp4) (own23.out.keepT kp4 (by decide)) I3.out HLL.out E3.out)
        have HL2 : Hid (∀ c : Cw, (rs ++ [c]).length ≤ 100 + (k + 1)) := hide fun c => by rw [List.length_append, HLL.out, List.length_singleton]; omega
        have bel04 := bel03.trans bel4
        clear own4 kp4 own23 own3r hO3 HP I3 E3 bel03 bel4 HLK
        go_wp2
        go_roundw
        case rel => exact ⟨k + 1, _, _, by omega, by go_num, rfl, by omega, by omega, HL2.out _, HT2, bel04⟩
        case measure => simp [intOf]; omega
    · have hlt' : ¬ (k : Int) < n := by omega
      obtain ⟨hO, hP, hI, hE⟩ := HT.out
      rw [List.drop_of_length_le (by have := HN.out; omega)] at hE
      have HE : Hid (cvs rs = cvs rf ++ lg ep0 rf.length bs) := hide (by rw [← hE]; simp [lg])
      have HC2 : Hid (InC wr rs) := hide fun c hc => ⟨(hP c hc).is, (hI c hc).1, (hI c hc).2.1⟩
      have HF2 : Hid (FitC rs) := hide fun c hc => ⟨(hI c hc).2.2.1, (hI c hc).2.2.2⟩
      have HR := hide hO.row
      clear HT hO hP hI hE
      go_wp2
      go_ret
      exact ⟨_, rfl, rs, ⟨HR.out, HC2.out⟩, HF2.out, HE.out, bel⟩

end Go.Proofs.Ytklpbcdkgjoheaa
