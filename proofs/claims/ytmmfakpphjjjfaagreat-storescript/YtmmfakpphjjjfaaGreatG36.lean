/- Texts of one layer, one behind the other. -/
import Derived.Test.YtmmfakpphjjjfaaGreatG17
import Derived.Test.YtmmfakpphjjjfaaGreatG35
/- List of runs. -/
namespace Go.Proofs.YtmmfakpphjjjfaaGreat
open Go.RowKit
set_option linter.unusedVariables false

theorem CopyR.keepN {base : Nat} {w w' : World} {rs : List Cw} (h : CopyR base w rs) (hb : KeepT 112 w w') : CopyR base w' rs := fun c hc => (h c hc).keepT hb (by decide)

theorem cloneN_any (vl : Value) (r : List Cw) (w : World) (h : RowC w vl r) (hone : ∀ c ∈ r, c.v.oneCell' = true) (hl : r.length ≤ 1048576) :
  Calls Tryz.prog 142 #[vl] w fun e w' => ∃ v, e = .returned v ∧ OwnR 112 w.heap.size w' v r ∧ Below w.heap.size w w' := by
 have q : ∀ (w : World) (a : Option Addr) (n c n' c' : Nat), (binOp .eql 76 (.slice a n c) (.slice none n' c')).run Tryz.prog w = .ok (.bool a.isNone) w := fun w a n c n' c' => Lib.run_eql_slice_nil w _ _ a n c n' c' Tryz.underlying76
 by_cases hn : vl = .slice none 0 0
 ·subst hn
  have : r = [] := by
   rcases h with ⟨_, h⟩ | ⟨ad, cap, h, _⟩
   ·exact h
   ·simp at h
  subst this
  clear h hl
  go_enter Tryz.func142, Tryz.ntmps142
  go_wp2
  go_ret
  exact ⟨_, rfl, OwnR.nil _ _ _, Below.refl _ _⟩
 ·obtain ⟨ad, cap, rfl⟩ : ∃ ad cap, vl = .slice (some ad) r.length cap := by
   rcases h with ⟨h, _⟩ | ⟨ad, cap, h, _⟩
   ·exact absurd h hn
   ·exact ⟨ad, cap, h⟩
  clear hn
  obtain ⟨w1, hw1, sz1, bel1, own1⟩ := coms_step 112 w #[] 0 [] rfl rfl (by simp [maxLen])
  have h1 := h.below bel1
  go_enter Tryz.func142, Tryz.ntmps142
  go_wp2_with (at_builtin; refine wpList_append_coms rfl (.tmp 5) (.tmp 6) 76 rfl 112 w.heap.size Tryz.underlying76 Tryz.info112 _ [] rfl own1 _ r rfl h1 hone (by simp; omega) (by omega) ?_)
  intro v2 w2 own2 bel2 _
  go_wp2
  go_ret
  exact ⟨_, rfl, by simpa using own2, bel1.trans bel2⟩

structure FstN (w wr : World) (g m cap : Nat) (rest : List Cw) (k : Nat) (rk : List Cw) : Prop where
 row : OwnR 112 w.heap.size wr (.slice (some ⟨g, 0, none⟩) m cap) rk
 len : rk.length = m
 left : rk.drop k = rest.drop k
 cop : CopyR w.heap.size wr (rk.take k)
 is : cvs rk = cvs rest
 ap : ApC (rk.take k)
 bel : Below w.heap.size w wr

theorem FstN.next {w wr w2 w3 : World} {g m cap : Nat} {rest rk : List Cw} {k : Nat} (h : FstN w wr g m cap rest k rk) {c : Cw} (hc : rest[k]? = some c) (hk : k < m) {v' : Value} (ho : OwnO 65 wr.heap.size w2 v' c.l) (hb : Below wr.heap.size wr w2)
  (hr : OwnR 112 w.heap.size w3 (.slice (some ⟨g, 0, none⟩) m cap) (rk.set k ⟨c.e, c.n, v', c.l⟩)) (hg : w2.grownBy w3 (some g)) : FstN w w3 g m cap rest (k + 1) (rk.set k ⟨c.e, c.n, v', c.l⟩) := by
 have hlen := h.len
 have hrk : rk[k]? = some c := by
  have e1 : (rk.drop k)[0]? = (rest.drop k)[0]? := by rw [h.left]
  rw [List.getElem?_drop, List.getElem?_drop] at e1
  simpa using e1.trans (by simpa using hc)
 have htk : (rk.set k ⟨c.e, c.n, v', c.l⟩).take (k + 1) = rk.take k ++ [⟨c.e, c.n, v', c.l⟩] := by
  rw [List.take_succ_eq_append_getElem (by rw [List.length_set]; omega), List.take_set_of_le (Nat.le_refl _)]
  simp
 have hrow2 : OwnR 112 w.heap.size w2 (.slice (some ⟨g, 0, none⟩) m cap) rk := h.row.below hb
 have kt : KeepT 112 w2 w3 := KeepT.of_row hrow2 hg
 refine ⟨hr, by rw [List.length_set]; exact hlen, ?_, ?_, ?_, ?_, ?_⟩
 ·rw [List.drop_set_of_lt (by omega), ← List.drop_drop, h.left, List.drop_drop]
 ·rw [htk]
  exact (h.cop.below hb |>.keepN kt).snoc (c := ⟨c.e, c.n, v', c.l⟩) ((ho.keepT kt (by decide)).rebase h.bel.size)
 ·rw [← h.is]
  unfold cvs
  rw [List.map_set]
  apply List.ext_getElem?
  intro i
  rw [List.getElem?_set]
  by_cases hik : k = i
  ·subst hik
   rw [if_pos rfl, if_pos (by rw [List.length_map]; omega), List.getElem?_map, hrk]
   rfl
  ·rw [if_neg hik]
 ·rw [htk]
  refine apc_snoc (N := wr.heap.size) h.ap (fun d hd b hb => ((h.cop d hd).block b hb).2) fun b hb => (OwnO.block ho b hb).1
 ·have b2 := h.bel.trans (hb.mono h.bel.size)
  refine b2.grown hg b2.size fun i hi => ?_
  have := (World.ownsRow.lt h.row g rfl).1
  simp only [Option.some.injEq] at hi
  omega

set_option maxRecDepth 20000 in
set_option maxHeartbeats 2000000 in
theorem hlist_v (p q : Nat) (w : World) (l : List Cm.Cv) (bk : Bool) (v : Value) (rs : List Cw) (hv : RkV p q w l bk v rs) :
  Calls Tryz.prog 101 #[.pointer (some ⟨p, 0, none⟩)] w fun E w' => ∃ v' rs', E = .returned v' ∧ Rq w.heap.size w' l v' rs' ∧ ApC rs' ∧ Below w.heap.size w w' := by
 have HM := hide (hmade_any p q w _ _ hv.blk)
 have c2 : w.cell? ⟨p, 2, none⟩ = some v := blk_cell hv.blk 2 rfl
 have HIS := hide hv.log.is
 have HGD := hide hv.log.good
 have hl := hv.log.len_le
 by_cases h0 : rs.length = 0
 ·have hr : rs = [] := List.eq_nil_of_length_eq_zero h0
  subst hr
  have HCL := hide (cloneN_any v [] w hv.log.row.row (fun c hc => by simp at hc) (by simp))
  obtain ⟨ao, cap, hvc, _, _⟩ := hv.log.row.row.shape
  subst hvc
  clear hv h0
  go_enter Tryz.func101, Tryz.ntmps101
  go_wp2_with fail
  refine HM.out.mono ?_
  rintro E w1 ⟨rfl, rfl⟩
  go_wp2_with fail
  refine HCL.out.mono ?_
  rintro E w1 ⟨v1, rfl, own1, bel1⟩
  obtain ⟨a1, k1, hv1, _, _⟩ := own1.row.shape
  simp only [List.length_nil] at hv1
  have G := hide (show Rq w.heap.size w1 l v1 [] ∧ ApC [] ∧ Below w.heap.size w w1 from ⟨⟨own1, fun c hc => by simp at hc, HIS.out, HGD.out⟩, fun i j c d _ hc => by simp at hc, bel1⟩)
  subst hv1
  clear own1 bel1 HCL HM
  go_wp2
  go_loopw [16] (fun iv wr => iv = .int .i64 0 ∧ wr = w1) (fun _ _ => 0)
  case atStart => exact ⟨rfl, rfl⟩
  case round =>
   obtain ⟨rfl, rfl⟩ := hrel
   go_wp2
   go_ret
   first
   | exact ⟨_, [], rfl, G.out⟩
   | exact ⟨_, rfl, [], G.out⟩
 ·obtain ⟨m, hm⟩ : ∃ m, rs.length = m := ⟨_, rfl⟩
  obtain ⟨b0, off, cap0, hvc, hcap, hcm, _, _⟩ := hv.log.row.row.full (by omega)
  have HOPS : Hid (∀ W, Below w.heap.size w W → ∀ c ∈ rs, IsO W c.v c.l ∧ c.l.length * 40 ≤ 140737488351232) := hide fun W hb c hc => ⟨((hv.log.cop c hc).is).below hb, (fit_run (good_get hv.log.good hv.log.is c hc)).2.1⟩
  have HCL : Hid (Calls Tryz.prog 142 #[v] w fun e w' => ∃ g cap, e = .returned (.slice (some ⟨g, 0, none⟩) m cap) ∧ m ≤ cap ∧ FstN w w' g m cap rs 0 rs) := hide (by
   refine (cloneN_any v rs w hv.log.row.row (fun c hc => (hv.log.cop c hc).is.one) hl).mono ?_
   rintro E w' ⟨v, rfl, own, bel⟩
   rcases own.2 with ⟨_, h0⟩ | ⟨g, cap, cur, hvv, _, _, hc, _⟩
   ·omega
   ·refine ⟨g, cap, by rw [hvv, hm], by omega, by rw [← hm, ← hvv]; exact own, hm, rfl, fun c hc => by simp at hc, rfl, fun i j c d _ hc => by simp at hc, bel⟩)
  have FIN : Hid (∀ W g cap rk, FstN w W g m cap rs m rk → Rq w.heap.size W l (.slice (some ⟨g, 0, none⟩) m cap) rk ∧ ApC rk ∧ Below w.heap.size w W) := hide fun W g cap rk hF => by
   have ht : rk.take m = rk := List.take_of_length_le (by rw [hF.len]; omega)
   have h1 := hF.cop
   have h2 := hF.ap
   rw [ht] at h1 h2
   exact ⟨⟨hF.row, h1, by rw [hF.is]; exact HIS.out, HGD.out⟩, h2, hF.bel⟩
  have HRL := hide hm
  rw [hvc, hm] at HCL
  rw [hvc, hm] at c2
  rw [hm] at hl h0
  clear hv hvc hcm hm hcap
  go_enter Tryz.func101, Tryz.ntmps101
  go_wp2_with fail
  refine HM.out.mono ?_
  rintro E w1 ⟨rfl, rfl⟩
  go_wp2_with fail
  refine HCL.out.mono ?_
  rintro E w1 ⟨g, cap, rfl, hcp, F0⟩
  have F0 := hide F0
  clear HCL HM
  go_wp2
  go_loopw [16] (fun iv wr => ∃ (k : Nat) (rk : List Cw), k ≤ m ∧ iv = .int .i64 k ∧ Hid (FstN w wr g m cap rs k rk)) (fun iv _ => m - (intOf iv).toNat)
  case atStart => exact ⟨0, rs, by omega, rfl, F0⟩
  case round =>
   obtain ⟨k, rk, hk, rfl, FSX⟩ := hrel
   by_cases hlt : k < m
   ·obtain ⟨c, hc⟩ : ∃ c, rs[k]? = some c := ⟨rs[k]'(by rw [HRL.out]; omega), by rw [List.getElem?_eq_getElem]⟩
    have hcm := List.mem_of_getElem? hc
    have hrk : rk[k]? = some c := by
     have e1 : (rk.drop k)[0]? = (rs.drop k)[0]? := by rw [FSX.out.left]
     rw [List.getElem?_drop, List.getElem?_drop] at e1
     simpa using e1.trans (by simpa using hc)
    obtain ⟨⟨d0, d1, d2⟩, _⟩ := own_atC FSX.out.row FSX.out.len k c hrk
    obtain ⟨wa, hwa, hwa2, sza, bela, bA, x0, x1, x2⟩ := new_step wr 112 (.int .i64 0) (.int .i64 0) (.slice none 0 0) (.int .i64 c.e) (.int .i64 c.n) c.v
    obtain ⟨hio, hlo⟩ := HOPS.out wr FSX.out.bel c hcm
    have CP : Hid (Calls Tryz.prog 124 #[.agg #[.int .i64 c.e, .int .i64 c.n, c.v]] wa fun E w2 => ∃ v2, E = .returned (.agg #[.int .i64 c.e, .int .i64 c.n, v2]) ∧ (∃ a n z, v2 = .slice a n z) ∧ (∃ W, ((w2.setCell ⟨g, k * 3, none⟩ (.int .i64 c.e)).setCell ⟨g, k * 3 + 1, none⟩ (.int .i64 c.n)).setCell ⟨g, k * 3 + 2, none⟩ v2 = W ∧ ∃ rk2, FstN w W g m cap rs (k + 1) rk2) ∧ (w2.cell? ⟨g, k * 3, none⟩ = some (.int .i64 c.e) ∧ w2.cell? ⟨g, k * 3 + 1, none⟩ = some (.int .i64 c.n) ∧ w2.cell? ⟨g, k * 3 + 2, none⟩ = some c.v) ∧ (w2.frozen? ⟨g, k * 3, none⟩ = false ∧ w2.frozen? ⟨g, k * 3 + 1, none⟩ = false ∧ w2.frozen? ⟨g, k * 3 + 2, none⟩ = false)) := hide (by
     refine (hcopied_any c.e c.n c.v c.l wa (hio.below bela) hlo).mono ?_
     rintro E w2 ⟨v2, rfl, own2, bel2⟩
     have b2 : Below wr.heap.size wr w2 := bela.trans (bel2.mono bela.size)
     have hrow2 : OwnR 112 w.heap.size w2 (.slice (some ⟨g, 0, none⟩) m cap) rk := FSX.out.row.below b2
     obtain ⟨W, hW, oW, gW⟩ := own_putC hrow2 FSX.out.len k hlt ⟨c.e, c.n, v2, c.l⟩
     obtain ⟨y, z⟩ := own_atC hrow2 FSX.out.len k c hrk
     exact ⟨v2, rfl, (by obtain ⟨xa, xc, hx, _⟩ := own2.is.shape; exact ⟨_, _, _, hx⟩), ⟨W, hW, _, FSX.out.next hc hlt (own2.rebase bela.size) b2 oW gW⟩, y, z⟩)
    obtain ⟨ca, cc, hcv, _, _⟩ := hio.shape
    rw [hcv] at d2 hwa hwa2 x2 CP
    have hlt' : (k : Int) < m := by omega
    clear FSX hio hlo hrk bela bA hc hcm
    go_wp2_with fail
    refine CP.out.mono ?_
    rintro E w2 ⟨v2, rfl, ⟨a2, n2, z2, rfl⟩, ⟨W, hW, rk2, F2⟩, ⟨y0, y1, y2⟩, ⟨f0, f1, f2⟩⟩
    have F2 := hide F2
    clear CP
    go_wp2
    go_roundw
    case rel => exact ⟨k + 1, rk2, by omega, by go_num, F2⟩
    case measure => simp [intOf]; omega
   ·obtain rfl : k = m := by omega
    have hlt' : ¬ (k : Int) < k := by omega
    have G := hide (FIN.out _ g cap rk FSX.out)
    clear FSX
    go_wp2
    go_ret
    first
    | exact ⟨_, rk, rfl, G.out⟩
    | exact ⟨_, rfl, rk, G.out⟩

end Go.Proofs.YtmmfakpphjjjfaaGreat
