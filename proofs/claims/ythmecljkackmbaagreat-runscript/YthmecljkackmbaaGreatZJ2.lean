/- Texts of one layer, one behind the other. -/
import Derived.Test.YthmecljkackmbaaGreatZJ1
import Derived.Test.YthmecljkackmbaaGreatZ5
import Derived.Test.YthmecljkackmbaaGreatZT
/- The document's runs: all ops. -/
namespace Go.Proofs.YthmecljkackmbaaGreat
open Go.RowKit
open Bm (Ov)
set_option linter.unusedVariables false

theorem ops_next {l : List Cm.Cv} {k : Nat} {c : Cm.Cv} (h : l[k]? = some c) : Rl.ops (l.take (k + 1)) = Rl.ops (l.take k) ++ c.l ∧ (Rl.ops (l.take k)).length + c.l.length ≤ (Rl.ops l).length := by
  have hk : k < l.length := by
    rcases Nat.lt_or_ge k l.length with h' | h'
    · exact h'
    · rw [List.getElem?_eq_none h'] at h
      simp at h
  have hc : l[k] = c := by rw [List.getElem?_eq_getElem hk] at h; simpa using h
  have e : Rl.ops (l.take (k + 1)) = Rl.ops (l.take k) ++ c.l := by rw [List.take_succ_eq_append_getElem hk, Rl.ops_snoc, hc]
  refine ⟨e, ?_⟩
  have e2 : Rl.ops l = Rl.ops (l.take (k + 1)) ++ Rl.ops (l.drop (k + 1)) := by
    unfold Rl.ops
    rw [← List.flatMap_append, List.take_append_drop]
  rw [e2, e, List.length_append, List.length_append]
  omega

set_option maxRecDepth 20000 in
set_option maxHeartbeats 2000000 in
theorem xops_any (x y : Nat) (w : World) (l : List Cm.Cv) (bk : Bool) (v : Value) (rs : List Cw) (h : XrV x y w l bk v rs) (hl : (Rl.ops l).length ≤ 1000000) :
    Calls Tryz.prog 146 #[.pointer (some ⟨x, 0, none⟩)] w fun E w' => ∃ u, E = .returned u ∧ OwnO 81 w.heap.size w' u (Rl.ops l) ∧ Below w.heap.size w w' := by
  have c0 : w.cell? ⟨x, 0, none⟩ = some (.bool true) := blk_cell h.blk 0 rfl
  have HN := hide (xnone_any x w c0)
  obtain ⟨a1, k1, hv, _, _⟩ := h.log.row.row.shape
  have hll := h.log.len_le
  have H := hide h
  clear h
  go_enter Tryz.func146, Tryz.ntmps146
  go_wp2_with fail
  refine HN.out.mono ?_
  rintro E w1 ⟨rfl, rfl⟩
  go_wp2
  go_loopw [3, 4] (fun ov iv wr => ∃ (k : Nat), k ≤ rs.length ∧ iv = .int .i64 k ∧ Hid (OwnO 81 w.heap.size wr ov (Rl.ops (l.take k))) ∧ Hid (Below w.heap.size w wr)) (fun _ iv _ => rs.length - (intOf iv).toNat)
  case atStart => exact ⟨0, by omega, rfl, hide (OwnO.nil _ _ _), hide (Below.refl _ _)⟩
  case round =>
    obtain ⟨k, hk, rfl, OR, BR⟩ := hrel
    obtain ⟨oa, ok, hov, _, _⟩ := OR.out.is.shape
    subst hov
    obtain ⟨on, hon⟩ : ∃ n, (Rl.ops (l.take k)).length = n := ⟨_, rfl⟩
    rw [hon] at OR ⊢
    have HR := hide (H.out.below BR.out)
    have c0 : wr.cell? ⟨x, 0, none⟩ = some (.bool true) := blk_cell HR.out.blk 0 rfl
    have c2 : wr.cell? ⟨x, 2, none⟩ = some v := blk_cell HR.out.blk 2 rfl
    rw [hv] at c2
    by_cases hlt : k < rs.length
    · obtain ⟨gb, go, gk, hvx, _, _, _, hrow⟩ := HR.out.log.row.row.full (by omega)
      rw [hv] at hvx
      simp only [Value.slice.injEq, true_and] at hvx
      obtain ⟨rfl, rfl⟩ := hvx
      obtain ⟨c, hc⟩ : ∃ c, rs[k]? = some c := ⟨rs[k], by rw [List.getElem?_eq_getElem]⟩
      obtain ⟨_, _, x2⟩ := hrow k c hc
      obtain ⟨e1, e2⟩ := ops_next (HR.out.log.at hc)
      have ic := (HR.out.log.cop c (List.mem_of_getElem? hc)).is
      obtain ⟨ca, ck, hcv, _, _⟩ := ic.shape
      rw [hcv] at ic x2
      have hlt' : (k : Int) < rs.length := by omega
      have X : Hid (∀ ty, ∃ v' w', (Builtin.append_ #[53, 53] ty #[.slice oa on ok, .slice ca c.l.length ck]).run Tryz.prog wr = .ok v' w' ∧ (OwnO 81 w.heap.size w' v' (Rl.ops (l.take (k + 1))) ∧ Below w.heap.size w w')) := hide fun ty => by
        obtain ⟨v1, w3, hr, own1, gr1, at1⟩ := run_append_ops_at (P := Tryz.prog) (w := wr) 53 ty 81 w.heap.size Tryz.underlying53 Tryz.info81 (.slice oa on ok) _ OR.out _ c.l ic (by have h9 : c.c.l = c.l := rfl; rw [h9] at e2; omega) BR.out.size
        refine ⟨v1, w3, hr, ?_, BR.out.grown gr1 BR.out.size (fun g hg => (OR.out.block g hg).1)⟩
        rw [e1]
        exact own1
      clear hrow hc ic e1 e2 c0
      go_wp2_with (at_builtin; refine wpList_append_at rfl (.tmp 17) (.tmp 25) 53 rfl _ _ rfl rfl X.out ?_)
      intro v8 w8 O8 B8
      have O8 := hide O8
      have B8 := hide B8
      go_wp2
      go_roundw
      case rel => exact ⟨k + 1, by omega, by go_num, O8, B8⟩
      case measure => simp [intOf]; omega
    · obtain rfl : k = rs.length := by omega
      have hlt' : ¬ (rs.length : Int) < rs.length := by omega
      have e : l.take rs.length = l := List.take_of_length_le (by rw [HR.out.log.len]; exact Nat.le_refl _)
      rw [e] at OR
      go_wp2
      go_ret
      exact ⟨_, rfl, OR.out, BR.out⟩

end Go.Proofs.YthmecljkackmbaaGreat

/- The document's runs: Get. -/
namespace Go.Proofs.YthmecljkackmbaaGreat
open Go.RowKit
open Bm (Ov)
set_option linter.unusedVariables false

theorem fit_ops {l : List Ov} (h : ∀ o ∈ l, o.c = 0) : FitO l := fun o ho => by
  obtain ⟨_, h2, h3, _⟩ := Om.chk_ok' (h o ho)
  have e1 : o.k.size = o.k.data.toList.length := rfl
  have e2 : o.v.size = o.v.data.toList.length := rfl
  have e3 : o.kl = o.k.data.toList := rfl
  have e4 : o.vl = o.v.data.toList := rfl
  rw [e3] at h2
  rw [e4] at h3
  omega

theorem xapp_len : ∀ (l t : List Ov), (Tm.app t l).length ≤ t.length + l.length
  | [], t => by simp [Tm.app]
  | o :: l, t => by
    have h1 := xapp_len l (Tm.one t o)
    have h2 := Tm.one_len t o
    show (Tm.app (Tm.one t o) l).length ≤ _
    rw [List.length_cons]
    omega

theorem tab_len (l : List Cm.Cv) : (Rl.tab l).length ≤ (Rl.ops l).length := by
  have := xapp_len (Rl.ops l) []
  show (Tm.app [] (Rl.ops l)).length ≤ _
  simpa using this

set_option maxHeartbeats 2000000 in
theorem xget_any (x y : Nat) (w : World) (l : List Cm.Cv) (bk : Bool) (v : Value) (rs : List Cw) (key : ByteArray) (h : XrV x y w l bk v rs) (hl : (Rl.ops l).length ≤ 900000) :
    Calls Tryz.prog 110 #[.pointer (some ⟨x, 0, none⟩), .string key] w fun E w' => E = .returned (.tuple #[.string (gv (Rl.tab l) key), .bool (Tm.met (Rl.tab l) key), .bool (gp (Rl.tab l) key)]) ∧ Below w.heap.size w w' := by
  have H := hide h
  have hc := Rl.ops_c h.log.good
  have hf : FitO (Rl.ops l) := fit_ops hc
  have ha : Tm.aft [] (Rl.ops l) = Rl.tab l := by
    unfold Tm.aft
    rw [if_pos (Bm.first_all hc)]
    rfl
  have hz : Bm.first (Rl.ops l) = 0 := Bm.first_all hc
  have HF := hide hf
  have HA := hide ha
  have HZ := hide hz
  clear h hc hf ha hz
  go_enter Tryz.func110, Tryz.ntmps110
  go_wp2_with fail
  refine (tnewR_any w).mono ?_
  rintro E w1 ⟨rfl, D1, b1⟩
  have DH := hide D1
  have BH := hide b1
  have XO := hide (xops_any x y w1 l bk v rs (H.out.below b1) (by omega))
  clear D1 b1
  go_wp2_with fail
  refine XO.out.mono ?_
  rintro E w2 ⟨u, rfl, ou, b2⟩
  have hlt := DH.out.lt
  have AP := hide (applyR_any w.heap.size w.heap.size w2 _ u [] (Rl.ops l) (DH.out.below b2) List.Pairwise.nil ou.is (fun _ b hb e => by have := (ou.block b hb).1; omega) HF.out (by simp; omega) (Nat.le_trans BH.out.size b2.size))
  rw [HA.out] at AP
  have B2 := hide (BH.out.trans (b2.mono BH.out.size))
  clear ou b2 XO DH BH hlt
  go_wp2_with fail
  refine AP.out.mono ?_
  rintro E w3 ⟨rfl, ⟨v3, D3, _⟩, o3⟩
  have htl : (Rl.tab l).length ≤ 1000000 := by
    have := tab_len l
    omega
  have GR := hide (getR_any w.heap.size w.heap.size w3 v3 _ key D3 htl)
  have B3 := hide (B2.out.trans (o3.below (fun g hg => by omega) B2.out.size))
  clear AP D3 o3 B2
  go_wp2_with fail
  refine GR.out.mono ?_
  rintro E w4 ⟨rfl, m, rfl⟩
  go_wp2
  go_ret3
  exact ⟨rfl, below_drewN B3.out m⟩

end Go.Proofs.YthmecljkackmbaaGreat
