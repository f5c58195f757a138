/- Texts of one layer, one behind the other. -/
import Derived.Test.YthmecljkackmbaaGreatZ10
import Derived.Test.YthmecljkackmbaaGreatZ6
import Derived.Lib.SliceRun
import Derived.Test.YthmecljkackmbaaGreatZ11
import Derived.Test.YthmecljkackmbaaGreatZ7
import Derived.Lib.AppendZeros
import Derived.Laws.BytesArg
/- bytes.Clone. -/
namespace Go.Proofs.YthmecljkackmbaaGreat
open Go.RowKit
set_option linter.unusedVariables false

theorem Tryz.eqnil (w : World) (a : Option Addr) (n c : Nat) : (binOp .eql 112 (.slice a n c) (.slice none 0 0)).run Tryz.prog w = .ok (.bool a.isNone) w := Lib.run_eql_slice_nil w 112 5 a n c 0 0 Tryz.underlying112

set_option maxHeartbeats 1000000 in
theorem bclone_any (v : Value) (bs : List Int) (w : World) (h : Is .u8 w v bs) (hl : bs.length ≤ 140737488355328) :
    Calls Tryz.prog 164 #[v] w fun E w' => ∃ v', E = .returned v' ∧ Own .u8 5 w.heap.size w' v' bs ∧ Below w.heap.size w w' := by
  rcases h.2 with ⟨hv, hz⟩ | ⟨ad, cap, hv, h1, h2, hc⟩
  · subst hz hv
    have hq := Tryz.eqnil w none 0 0
    clear h
    go_enter Tryz.func164, Tryz.ntmps164
    go_wp2
    go_ret
    exact ⟨_, rfl, Own.nil _ _ _ _, Below.refl _ _⟩
  · obtain ⟨w1, hw1, sz1, bel1, own1⟩ := own_step .u8 5 w #[] 0 [] rfl rfl (by simp) (by simp)
    have hq := Tryz.eqnil w (some ad) bs.length cap
    simp only [Option.isNone_some] at hq
    have h1' := h.below bel1
    subst hv
    have X : Hid (∀ ty, ∃ v' w', (Builtin.append_ #[112, 112] ty #[.slice (some ⟨w.heap.size, 0, none⟩) 0 0, .slice (some ad) bs.length cap]).run Tryz.prog w1 = .ok v' w' ∧ (Own .u8 5 w.heap.size w' v' bs ∧ Below w.heap.size w w')) := hide fun ty => by
      obtain ⟨v', w', hr, ho, hg, _⟩ := run_append_is_at (P := Tryz.prog) 112 ty .u8 5 w.heap.size 1 Tryz.underlying112 Tryz.info5 (by decide) _ [] own1 _ bs h1' (by simp; omega) (by omega)
      exact ⟨v', w', hr, by simpa using ho, bel1.grown hg (by omega) fun k hk => by simp [Value.ownBlock] at hk; omega⟩
    clear own1 h1' h hc
    go_enter Tryz.func164, Tryz.ntmps164
    go_wp2_with (at_builtin; refine wpList_append_at rfl (.tmp 5) (.tmp 6) 112 rfl _ _ rfl rfl X.out ?_)
    intro v2 w2 own2 bel2
    go_wp2
    go_ret
    exact ⟨_, rfl, own2, bel2⟩

end Go.Proofs.YthmecljkackmbaaGreat

/- slices.Grow of nothing, slices.Concat, frame.Append. -/
namespace Go.Proofs.YthmecljkackmbaaGreat
open Go.RowKit
set_option linter.unusedVariables false

theorem Tryz.intT : Tryz.prog.underlying 3 = some (.int .i64) := by kernel_rfl

theorem zeros_u8 (n : Nat) : (Builtin.zeroCells (Value.int .u8 0).cells n).toList = (List.replicate n (0 : Int)).map (Value.int .u8) := by
  apply List.ext_getElem?
  intro i
  simp [Builtin.zeroCells, Value.cells, List.getElem?_replicate]
  by_cases h : i < n <;> simp [h, Nat.mod_one]

/-- An append of zeros to nothing: a row of the call's own. -/
theorem run_zeros (w : World) (n : Nat) (h0 : 0 < n) (h1 : n ≤ 150000000000000) : Hid (∀ ty, ∃ v' w', (Builtin.append_ #[112, 3] ty #[.slice none 0 0, .int .i64 n]).run Tryz.prog w = .ok v' w' ∧ Own .u8 5 w.heap.size w' v' (List.replicate n 0) ∧ Below w.heap.size w w') := by
  obtain ⟨i, hi, hz, hsize, hb⟩ := info_parts Tryz.info5
  refine hide fun ty => ⟨_, _, Lib.run_append_nil_zeros w 112 3 ty 5 i (.int .u8 0) .i64 .i64 Tryz.underlying112 Tryz.intT hi hz n h0 (by omega) (by omega) (by rw [hb]; omega), ?_, ?_⟩
  · refine ⟨fun z hz => ?_, ?_⟩
    · rw [List.eq_of_mem_replicate hz]; rfl
    · rw [List.length_replicate]
      refine own_new w (Value.int .u8 0).cells rfl _ n _ (by simp [Value.cells]) (grownCap_ge w n 0 _) (grownCap_le_maxLen w n 0 _ (by unfold maxLen; omega)) (Nat.le_refl _) _ ?_
      rw [← zeros_u8 n]
  · exact (Below.refl _ _).grown (grown_new w _ none) (Nat.le_refl _) (fun k hk => by cases hk)

theorem wpList_append_ran {P : Program} {w : World} {ops : Array Oper} {rest : List Oper} {o : Oper} {a : Act} {Q : Exit → Act → World → Prop} (hgd : o.guard = none) (s x : Operand) (t tn : TypeId) (ho : o.op = .call { callee := .builtin .append, args := #[s, x], argTypes := #[t, tn] })
    (v vx : Value) (hs : a.eval s = v) (hx : a.eval x = vx) {R : Value → World → Prop} (hrun : ∀ ty, ∃ v' w', (Builtin.append_ #[t, tn] ty #[v, vx]).run P w = .ok v' w' ∧ R v' w')
    (h : ∀ v' w', R v' w' → wpList P ops Q rest (a.put o.dst v') w') : wpList P ops Q (o :: rest) a w := by
  obtain ⟨v', w', hr, hR⟩ := hrun o.type
  exact Lib.wpList_append_run w hgd s x t tn ho v vx hs hx v' w' hr (h v' w' hR)

set_option maxHeartbeats 1000000 in
theorem fgrow_any (n : Nat) (w : World) (h1 : n ≤ 150000000000000) :
    Calls Tryz.prog 210 #[.slice none 0 0, .int .i64 n] w fun E w' => ∃ v', E = .returned v' ∧ Own .u8 5 w.heap.size w' v' [] ∧ Below w.heap.size w w' := by
  have hn0 : ¬ (n : Int) < 0 := by omega
  have e1 : IntKind.i64.wrap ((n : Int) - 0) = n := by rw [wrap_i64_small _ (by omega) (by omega)]; omega
  have hsl := (Own.nil .u8 5 w.heap.size w).is.slice_h Tryz.elemP Tryz.sizeP 0 (by simp)
  by_cases h0 : 0 < n
  · have X := run_zeros w n h0 h1
    have hn1 : (0 : Int) < n := by omega
    go_enter Tryz.func210, Tryz.ntmps210
    go_wp2_with (at_builtin; refine wpList_append_ran rfl (.tmp 20) (.tmp 21) 112 3 rfl _ _ rfl rfl X.out ?_)
    intro v2 w2 own2 bel2
    obtain ⟨vs, hvs, owns, _⟩ := own2.slice_h Tryz.elemP Tryz.sizeP 0 (by omega)
    have hvs' := hvs w2
    simp only [Int.natCast_zero] at hvs'
    clear X hvs hsl own2
    go_wp2
    go_ret
    exact ⟨_, rfl, by simpa using owns, bel2⟩
  · obtain rfl : n = 0 := by omega
    clear e1
    go_enter Tryz.func210, Tryz.ntmps210
    go_wp2
    go_ret
    exact ⟨_, rfl, Own.nil _ _ _ _, Below.refl _ _⟩

end Go.Proofs.YthmecljkackmbaaGreat

/- slices.Concat, frame.Append, frame.size. -/
namespace Go.Proofs.YthmecljkackmbaaGreat
open Go.RowKit
set_option linter.unusedVariables false

/-- The bytes of a row's lists, one behind the other. -/
def flt : List Bw → List Int
  | [] => []
  | a :: r => a.l ++ flt r

theorem flt_app : ∀ r s : List Bw, flt (r ++ s) = flt r ++ flt s
  | [], s => rfl
  | a :: r, s => by simp [flt, flt_app r s]

theorem flt_next {r : List Bw} {k : Nat} {a : Bw} (h : r[k]? = some a) : flt (r.take (k + 1)) = flt (r.take k) ++ a.l := by
  obtain ⟨h1, h2⟩ := List.getElem?_eq_some_iff.1 h
  rw [List.take_succ_eq_append_getElem h1, flt_app, h2]
  simp [flt]

theorem flt_le (r : List Bw) (k : Nat) : (flt (r.take k)).length ≤ (flt r).length := by
  have : flt r = flt (r.take k) ++ flt (r.drop k) := by rw [← flt_app, List.take_append_drop]
  rw [this, List.length_append]
  omega

set_option maxHeartbeats 2000000 in
theorem concat_any (v : Value) (r : List Bw) (w : World) (h : IsBB w v r) (hr : r.length ≤ 1000) (hl : (flt r).length ≤ 150000000000000) :
    Calls Tryz.prog 197 #[v] w fun E w' => ∃ v', E = .returned v' ∧ Own .u8 5 w.heap.size w' v' (flt r) ∧ Below w.heap.size w w' := by
  obtain ⟨ao, cap, hv, hcap, hcm⟩ := h.1.shape
  have H := hide h
  subst hv
  clear h
  go_enter Tryz.func197, Tryz.ntmps197
  go_wp2
  go_loopw [3, 11] (fun sv iv wr => ∃ k : Nat, k ≤ r.length ∧ iv = .int .i64 k ∧ sv = .int .i64 (flt (r.take k)).length ∧ w = wr) (fun _ iv _ => r.length - (intOf iv).toNat)
  case atStart => exact ⟨0, by omega, rfl, rfl, rfl⟩
  case round =>
    obtain ⟨k, hk, rfl, rfl, rfl⟩ := hrel
    by_cases hlt : k < r.length
    · obtain ⟨b, off, cq, hvx, _, _, hB, hcell⟩ := H.out.full (by omega)
      simp only [Value.slice.injEq, true_and] at hvx
      obtain ⟨rfl, rfl⟩ := hvx
      obtain ⟨a, ha⟩ : ∃ a, r[k]? = some a := ⟨r[k], by rw [List.getElem?_eq_getElem]⟩
      have e4 := hcell k a ha
      obtain ⟨av, ac, hav, _, _⟩ := (H.out.2 a (List.mem_of_getElem? ha)).shape
      rw [hav] at e4
      have hlt' : (k : Int) < r.length := by omega
      have hn := flt_next ha
      have hm := flt_le r (k + 1)
      have hn2 : (flt (r.take (k + 1))).length = (flt (r.take k)).length + a.l.length := by rw [hn, List.length_append]
      have hn3 : ((flt (r.take (k + 1))).length : Int) = ((flt (r.take k)).length : Int) + (a.l.length : Int) := by omega
      generalize hq : (flt (r.take k)).length = q at *
      have e5 : IntKind.i64.wrap ((q : Int) + (a.l.length : Int)) = (q : Int) + a.l.length := wrap_i64_small _ (by omega) (by omega)
      have e6 : ¬ (q : Int) + (a.l.length : Int) < 0 := by omega
      have hk0 : (0 : Int) ≤ (k : Int) := by omega
      clear hcell hn hq hav ha
      go_wp2
      go_roundw
      case rel => exact ⟨k + 1, by omega, by go_num, by rw [hn3], trivial⟩
      case measure => simp [intOf]; omega
    · obtain rfl : k = r.length := by omega
      rw [List.take_length]
      have hlt' : ¬ (r.length : Int) < r.length := by omega
      go_wp2_with fail
      refine (fgrow_any (flt r).length _ hl).mono ?_
      rintro E w1 ⟨v1, rfl, own1, bel1⟩
      have H1 := hide (H.out.below bel1)
      go_wp2
      go_loopw [6, 27] (fun sv iv wr => ∃ k : Nat, k ≤ r.length ∧ iv = .int .i64 k ∧ Own .u8 5 w.heap.size wr sv (flt (r.take k)) ∧ Below w.heap.size w wr) (fun _ iv _ => r.length - (intOf iv).toNat)
      case atStart => exact ⟨0, by omega, rfl, own1, bel1⟩
      case round =>
        clear own1 bel1 H1
        obtain ⟨k, hk, rfl, own, bel⟩ := hrel
        have szr := bel.size
        by_cases hlt : k < r.length
        · have H2 := H.out.below bel
          obtain ⟨b, off, cq, hvx, _, _, hB, hcell⟩ := H2.full (by omega)
          simp only [Value.slice.injEq, true_and] at hvx
          obtain ⟨rfl, rfl⟩ := hvx
          obtain ⟨a, ha⟩ : ∃ a, r[k]? = some a := ⟨r[k], by rw [List.getElem?_eq_getElem]⟩
          have e4 := hcell k a ha
          have isa := H2.2 a (List.mem_of_getElem? ha)
          have hlt' : (k : Int) < r.length := by omega
          have hn := hide (flt_next ha)
          have hm := flt_le r (k + 1)
          have hn2 : (flt (r.take (k + 1))).length = (flt (r.take k)).length + a.l.length := by rw [hn.out, List.length_append]
          have hk0 : (0 : Int) ≤ (k : Int) := by omega
          have sum : (flt (r.take k)).length + a.l.length ≤ 150000000000000 := by omega
          clear hcell ha H2 hn2 hm
          generalize flt (r.take k) = q at *
          go_wp2_with (at_builtin; refine wpList_append_is rfl (.tmp 31) (.tmp 32) 112 rfl .u8 5 w.heap.size 1 Tryz.underlying112 Tryz.info5 (by decide) _ q rfl own _ a.l rfl isa (by simp; omega) szr ?_)
          intro v2 w2 own2 bel2 _
          rw [← hn.out] at own2
          have b3 := bel.trans bel2
          clear own isa e4 bel2
          go_wp2
          go_roundw
          case rel => exact ⟨k + 1, by omega, by go_num, own2, b3⟩
          case measure => simp [intOf]; omega
        · obtain rfl : k = r.length := by omega
          rw [List.take_length] at own
          have hlt' : ¬ (r.length : Int) < r.length := by omega
          go_wp2
          go_ret
          exact ⟨_, rfl, own, bel⟩

/-- What Append answers. -/
def apd (bs r : List Int) : List Int := if r.length ≤ 131072 then bs ++ Fm.frm r else []
def ape (r : List Int) : Int := if r.length ≤ 131072 then 0 else 3

theorem conv_len (n : Nat) (h : n ≤ 140737488355328) : IntKind.u64.wrap (n : Int) = n := by
  rw [IntKind.wrap_u64]; omega

set_option maxHeartbeats 2000000 in
theorem fapp_any (vb vr : Value) (bs r : List Int) (w : World) (hb : Is .u8 w vb bs) (hr : Is .u8 w vr r) (hl : bs.length ≤ 140737488351232) (hl' : r.length ≤ 140737488351232) :
    Calls Tryz.prog 167 #[vb, vr] w fun E w' => ∃ v', E = .returned (.tuple #[v', .int .i64 (ape r)]) ∧ Own .u8 5 w.heap.size w' v' (apd bs r) ∧ Below w.heap.size w w' := by
  obtain ⟨ro, rc, hv, hcap, hcm⟩ := hr.shape
  subst hv
  obtain ⟨bo, bc, hv, hcap', hcm'⟩ := hb.shape
  subst hv
  have HB := hide hb
  have HR := hide hr
  clear hb hr
  by_cases hlong : r.length ≤ 131072
  · have e1 : ape r = 0 := if_pos hlong
    have e2 : apd bs r = bs ++ Fm.frm r := if_pos hlong
    rw [e1, e2]
    have hn : ¬ (131072 : Int) < (r.length : Int) := by omega
    have e3 : IntKind.u64.wrap (r.length : Int) = r.length := conv_len _ (by omega)
    have hz := Fm.sz3 hlong
    clear e1 e2
    go_enter Tryz.func167, Tryz.ntmps167
    go_wp2_with fail
    refine (app_any (.slice none 0 0) [] (r.length : Int) _ (Own.nil .u8 5 w.heap.size w).is (by simp) (by omega) (by omega)).mono ?_
    rintro E w1 ⟨v1, rfl, own1, bel1⟩
    rw [List.nil_append, Int.toNat_natCast] at own1
    obtain ⟨no, nc, hv, _, _⟩ := own1.is.shape
    subst hv
    generalize hvn : Value.slice no (Vm.enc r.length).length nc = v1 at *
    generalize hvb : Value.slice bo bs.length bc = vb at *
    obtain ⟨w2, hw2, sz2, bel2, B2⟩ := blk_step w1 #[vb, v1, .slice ro r.length rc] 112
    have row : IsBB w2 (.slice (some ⟨w1.heap.size, 0, none⟩) 3 3) [⟨vb, bs⟩, ⟨v1, Vm.enc r.length⟩, ⟨.slice ro r.length rc, r⟩] := by
      refine ⟨?_, ?_⟩
      · obtain ⟨W, hW, _, _, ho⟩ := rows_step bwc 1 bwc_len 112 w1 #[vb, v1, .slice ro r.length rc] 3 [⟨vb, bs⟩, ⟨v1, Vm.enc r.length⟩, ⟨.slice ro r.length rc, r⟩] rfl rfl (by unfold maxLen; omega)
        rw [← hw2, hW]
        exact ho.row
      · intro a ha
        simp at ha
        rcases ha with rfl | rfl | rfl
        · exact (HB.out.below bel1).below bel2
        · exact (own1.below bel2).is
        · exact (HR.out.below bel1).below bel2
    have szs := bel1.size
    have HC := hide (concat_any _ _ w2 row (by simp) (by simp [flt]; have : (Vm.enc r.length).length ≤ 3 := hz; omega))
    have b02 : Below w.heap.size w w2 := bel1.trans (bel2.mono szs)
    clear own1 row bel1 bel2 B2
    subst hvn hvb
    go_wp2_with fail
    refine HC.out.mono ?_
    rintro E w3 ⟨v3, rfl, own3, bel3⟩
    have own4 : Own .u8 5 w2.heap.size w3 v3 (bs ++ Fm.frm r) := by simpa [flt, Fm.frm] using own3
    clear HC own3
    go_wp2
    go_ret2
    exact ⟨_, rfl, own4.rebase (by omega), b02.trans (bel3.mono (by omega))⟩
  · have e1 : ape r = 3 := if_neg hlong
    have e2 : apd bs r = [] := if_neg hlong
    rw [e1, e2]
    have hn : (131072 : Int) < (r.length : Int) := by omega
    go_enter Tryz.func167, Tryz.ntmps167
    go_wp2
    go_ret2
    exact ⟨_, rfl, Own.nil _ _ _ _, Below.refl _ _⟩

end Go.Proofs.YthmecljkackmbaaGreat

/- frame.Read. -/
namespace Go.Proofs.YthmecljkackmbaaGreat
open Go.RowKit
set_option linter.unusedVariables false

theorem sres_step {bs : List Int} {most : Nat} {u i g : Int} (hm : most < 18446744073709551616) (h : SRes bs most u i g) :
    (∃ x : Nat, u = x ∧ i = Vm.sz x ∧ g = 0 ∧ x ≤ most ∧ Vm.enc x <+: bs) ∨ (u = 0 ∧ i = 0 ∧ g = 5 ∧ ∀ x : Nat, x ≤ most → ¬ Vm.enc x <+: bs) := by
  rcases h with ⟨hR, h1, h2, he⟩ | ⟨hu, hi, he, x, n, f, hR, hcase⟩
  · rcases hR with ⟨x, hx, hp, h3, h4, _⟩ | ⟨_, _, _, h5⟩
    · exact .inl ⟨x, h3, h4, he, by omega, hp⟩
    · simp at h5
  · refine .inr ⟨hu, hi, he, fun y hy hp => ?_⟩
    have := Vm.res_good hR (u := y) (by omega) hp
    omega

theorem rd_bad {bs : List Int} (h : ∀ x : Nat, x ≤ 131072 → ¬ Vm.enc x <+: bs) : Fm.Rd bs [] 0 5 := .inr ⟨rfl, rfl, rfl, fun s hs hp => h _ hs (Fm.frm_pre hp).1⟩

theorem rd_short {bs : List Int} {x : Nat} (h : Vm.enc x <+: bs) (hx : bs.length - Vm.sz x < x) : Fm.Rd bs [] 0 5 := .inr ⟨rfl, rfl, rfl, fun s hs hp => by
  obtain ⟨h1, h2, _⟩ := Fm.frm_pre hp
  have := Vm.pre_one bs _ _ h h1
  subst this
  omega⟩

theorem rd_good {bs : List Int} {x : Nat} (h : Vm.enc x <+: bs) (h' : x ≤ 131072) (hx : x ≤ bs.length - Vm.sz x) : Fm.Rd bs ((bs.drop (Vm.sz x)).take x) (Vm.sz x + x) 0 := by
  obtain ⟨h1, h2⟩ := Fm.frm_of h hx
  exact .inl ⟨rfl, by omega, by rw [h1], h2⟩

set_option maxHeartbeats 1000000 in
theorem fread_any (vb : Value) (bs : List Int) (w : World) (hb : Is .u8 w vb bs) (hl : bs.length ≤ 150000000000000) :
    Calls Tryz.prog 128 #[vb] w fun E w' => ∃ (v : Value) (r : List Int) (n : Nat) (e : Int), E = .returned (.tuple #[v, .int .i64 n, .int .i64 e]) ∧ Own .u8 5 w.heap.size w' v r ∧ Below w.heap.size w w' ∧ Hid (Fm.Rd bs r n e) := by
  obtain ⟨u, i, g, hS⟩ := sres_is bs ((131072 : Nat) : Int)
  have HS := hide (small_any vb bs _ u i g w hb hl (by omega) (by omega) hS)
  rcases sres_step (by omega) hS with ⟨x, rfl, rfl, rfl, hx, hp⟩ | ⟨rfl, rfl, rfl, hno⟩
  · have hz := Fm.sz3 hx
    have hpl : Vm.sz x ≤ bs.length := hp.length_le
    by_cases hlong : x ≤ bs.length - Vm.sz x
    · have R := hide (rd_good hp hx hlong)
      obtain ⟨vs, hsl, isl⟩ := hb.slice_lh Tryz.elemP Tryz.sizeP (Vm.sz x) (Vm.sz x + x) (by omega) (by omega)
      rw [show Vm.sz x + x - Vm.sz x = x by omega] at isl
      have hlt : ((bs.drop (Vm.sz x)).take x).length ≤ 131072 := by rw [List.length_take, List.length_drop]; omega
      have HC := hide (bclone_any vs _ w isl (by omega))
      obtain ⟨ao, cap, hv, hcap, hcm⟩ := hb.shape
      subst hv
      clear hb isl hlt hS hp
      generalize (bs.drop (Vm.sz x)).take x = r at *
      generalize Vm.sz x = m at *
      have e1 : IntKind.i64.wrap ((bs.length : Int) - (m : Int)) = (bs.length : Int) - m := wrap_i64_small _ (by omega) (by omega)
      have e2 : IntKind.i64.wrap ((m : Int) + (x : Int)) = (m : Int) + x := wrap_i64_small _ (by omega) (by omega)
      have e3 : ¬ (bs.length : Int) - m < x := by omega
      have hsl2 : ∀ wx, (Instr.slice 112 (.slice ao bs.length cap) (some (.int .i64 (m : Int))) (some (.int .i64 ((m : Int) + (x : Int)))) none).run Tryz.prog wx = .ok vs wx := by simpa using hsl
      clear hsl
      go_enter Tryz.func128, Tryz.ntmps128
      go_wp2_with fail
      refine HS.out.mono ?_
      rintro E w1 ⟨rfl, rfl⟩
      clear HS
      go_wp2_with fail
      refine HC.out.mono ?_
      rintro E w2 ⟨v2, rfl, own2, bel2⟩
      clear HC hsl2
      go_wp2
      go_ret3
      exact ⟨v2, r, m + x, 0, by simp, own2, bel2, R⟩
    · have R := hide (rd_short hp (by omega))
      obtain ⟨ao, cap, hv, hcap, hcm⟩ := hb.shape
      subst hv
      clear hb hS hp
      generalize Vm.sz x = m at *
      have e1 : IntKind.i64.wrap ((bs.length : Int) - (m : Int)) = (bs.length : Int) - m := wrap_i64_small _ (by omega) (by omega)
      have e3 : (bs.length : Int) - m < x := by omega
      go_enter Tryz.func128, Tryz.ntmps128
      go_wp2_with fail
      refine HS.out.mono ?_
      rintro E w1 ⟨rfl, rfl⟩
      clear HS
      go_wp2
      go_ret3
      exact ⟨_, [], 0, 5, rfl, Own.nil _ _ _ _, Below.refl _ _, R⟩
  · have R := hide (rd_bad hno)
    clear hb hS hno
    go_enter Tryz.func128, Tryz.ntmps128
    go_wp2_with fail
    refine HS.out.mono ?_
    rintro E w1 ⟨rfl, rfl⟩
    clear HS
    go_wp2
    go_ret3
    exact ⟨_, [], 0, 5, rfl, Own.nil _ _ _ _, Below.refl _ _, R⟩

end Go.Proofs.YthmecljkackmbaaGreat

/- The contracts of op's readCounted and Read. -/
namespace Go.Proofs.YthmecljkackmbaaGreat
open Go.RowKit
set_option linter.unusedVariables false

/-- 'string(b)'. -/
theorem Is.conv {w : World} {v : Value} {zs : List Int} (h : Is .u8 w v zs) {P : Program} {src e dst : TypeId} (hs : P.underlying src = some (.slice e)) (he : P.underlying e = some (.int .u8)) (hd : P.underlying dst = some .string) :
    (convert src dst v).run P w = .ok (.string ⟨(Om.byts zs).toArray⟩) w := by
  by_cases hz : 0 < zs.length
  · obtain ⟨b, o, c, rfl, _, _, _, hc⟩ := h.full hz
    exact run_convert_bytes_arg w src e hs he b o zs.length c zs rfl hc dst hd
  · have : zs = [] := List.eq_nil_of_length_eq_zero (by omega)
    subst this
    obtain ⟨ao, c, rfl⟩ := h.bare
    cases ao with
    | none => exact run_convert_bytes_nil w src e hs he 0 c dst hd
    | some ad =>
      rw [run_convert_bytes_string w src dst e _ 0 c hs he hd, run_bytesToString w ad 0 c [] (by have := run_loadCells_list (P := P) w ad [] (by simp); simpa using this)]
      rfl

theorem Is.bytes {w : World} {v : Value} {zs : List Int} (h : Is .u8 w v zs) : ∀ z ∈ zs, 0 ≤ z ∧ z < 256 := by
  intro z hz
  obtain ⟨i, hi, rfl⟩ := List.getElem_of_mem hz
  have := h.byte i
  simpa [List.getD, hi] using this

theorem cres_bad {bs : List Int} {most : Nat} {u i g : Int} (hS : SRes bs most u i g) (hg : g ≠ 0) (hm : most ≤ 64) : ∀ t : List UInt8, t.length ≤ most → ¬ Om.cnt t <+: bs := by
  intro t ht hp
  have hp1 : Vm.enc t.length <+: bs := (List.prefix_append _ _).trans hp
  rcases hS with ⟨_, _, _, h⟩ | ⟨_, _, _, x, n, e, hR, hc⟩
  · exact hg h
  · have := Vm.res_good hR (u := t.length) (by omega) hp1
    omega

theorem cres_short {bs : List Int} {most : Nat} {u i : Int} (hR : Vm.Res bs u i 0) (hs : (bs.length : Int) - i < u) : ∀ t : List UInt8, t.length ≤ most → most ≤ 64 → ¬ Om.cnt t <+: bs := by
  intro t ht hm hp
  have hp1 : Vm.enc t.length <+: bs := (List.prefix_append _ _).trans hp
  have := Vm.res_good hR (u := t.length) (by omega) hp1
  have h2 := hp.length_le
  rw [Om.cnt_len] at h2
  omega

theorem cres_good {bs : List Int} {most u n : Nat} (hb : ∀ z ∈ bs, 0 ≤ z ∧ z < 256) (hR : Vm.Res bs u n 0) (hu : u ≤ most) (hs : n + u ≤ bs.length) :
    Om.CRes bs most (Om.byts ((bs.drop n).take u)) (n + u) 0 := by
  have hl : (Om.byts ((bs.drop n).take u)).length = u := by rw [Om.byts_len, List.length_take, List.length_drop]; omega
  rcases hR with ⟨x, _, hp, h1, h2, _⟩ | ⟨_, _, _, h⟩
  · have hx : x = u := by omega
    have hn : n = Vm.sz u := by rw [hx] at h2; omega
    subst hx
    refine .inl ⟨rfl, by rw [hl]; exact hu, ?_, ?_⟩
    · unfold Om.cnt
      rw [hl, Om.ints_byts (fun z hz => hb z (List.mem_of_mem_drop (List.mem_of_mem_take hz)))]
      obtain ⟨r, hr⟩ := hp
      have hln : (Vm.enc x).length = n := hn.symm
      have : bs.drop n = r := by rw [← hr, ← hln]; simp
      rw [this, ← hr]
      exact (List.prefix_append_right_inj _).2 (List.take_prefix _ _)
    · rw [Om.cnt_len, hl, hn]
  · simp at h

set_option maxRecDepth 20000 in
set_option maxHeartbeats 400000 in
theorem rcount_any (vb : Value) (bs : List Int) (a most : Nat) (w : World) (hb : Is .u8 w vb bs) (hl : bs.length ≤ 140737488355328) (h0 : 0 < bs.length) (ha : a ≤ bs.length) (hm : most ≤ 64) :
    Calls Tryz.prog 212 #[vb, .int .i64 a, .int .i64 most] w fun E w' => ∃ (s : ByteArray) (n : Nat) (d e : Int), E = .returned (.tuple #[.string s, .int .i64 d, .int .i64 e]) ∧ w = w' ∧ Om.CRes (bs.drop a) most s.data.toList n e ∧ (e = 0 → d = ((a + n : Nat) : Int) ∧ a + n ≤ bs.length) := by
  have hby := hb.bytes
  obtain ⟨b1, o1, c1, rfl, hcap, hcm, hB1, hc1⟩ := hb.full h0
  have isub := hb.sub a bs.length ha (Nat.le_refl _)
  rw [List.take_of_length_le (by simp)] at isub
  obtain ⟨u, i, g, hS⟩ := sres_is (bs.drop a) most
  have hS' := hS
  rcases hS with ⟨hR, h1, h2, rfl⟩ | ⟨rfl, rfl, rfl, x, n, e, hR, hcase⟩
  · have hbd := Vm.res_bounds hR
    have hdl : ((bs.drop a).length : Int) = bs.length - a := by rw [List.length_drop]; omega
    obtain ⟨un, rfl⟩ : ∃ un : Nat, u = un := ⟨u.toNat, by omega⟩
    obtain ⟨n, rfl⟩ : ∃ n : Nat, i = n := ⟨i.toNat, by omega⟩
    have hn10 : n ≤ 10 := by omega
    have hna : a + n ≤ bs.length := by omega
    have hca : a < c1 := by
      rcases hR with ⟨x, _, hp, _⟩ | ⟨_, _, _, h⟩
      · have := hp.length_le
        have := Vm.sz_pos x
        unfold Vm.sz at this
        omega
      · simp at h
    have hca' : c1 ≠ a := by omega
    by_cases hs : bs.length - (a + n) < un
    · have HG := hide (cres_short (most := most) hR (by rw [hdl]; omega))
      have hs' : (bs.length : Int) - ((a : Int) + n) < un := by omega
      clear hc1 hby
      have HS := hide hS'
      clear hS' hbd hdl
      go_enter Tryz.func212, Tryz.ntmps212
      go_wp2_with fail
      refine (small_any _ (bs.drop a) most un n 0 _ isub (by rw [List.length_drop]; omega) (by omega) (by omega) HS.out).mono ?_
      rintro E w1 ⟨rfl, rfl⟩
      go_wp2
      go_ret3
      exact ⟨_, 0, _, _, rfl, rfl, .inr ⟨rfl, rfl, rfl, fun t ht => HG.out t ht hm⟩, fun h => by simp at h⟩
    · have isb := hb.sub (a + n) (a + n + un) (by omega) (by omega)
      rw [show a + n + un - (a + n) = un by omega] at isb
      have hconv := isb.conv Tryz.underlying112 Tryz.underlying5 Tryz.underlying9
      have hg := cres_good (bs := bs.drop a) (most := most) (u := un) (n := n) (fun z hz => hby z (List.mem_of_mem_drop hz)) hR (by omega) (by rw [List.length_drop]; omega)
      rw [List.drop_drop] at hg
      generalize hbt : Om.byts ((bs.drop (a + n)).take un) = bt at *
      have HG := hide hg
      have HS := hide hS'
      have hs' : ¬ (bs.length : Int) - ((a : Int) + n) < un := by omega
      by_cases hcn : c1 = a + n
      · have hun : un = 0 := by omega
        subst hun
        have hbt0 : bt = [] := by rw [← hbt]; simp [Om.byts]
        subst hbt0
        have isz : Is .u8 w (.slice (some ⟨b1, o1, none⟩) 0 0) [] := ⟨by simp, .inr ⟨_, 0, rfl, by simp, by simp, by simp⟩⟩
        have hconv0 := isz.conv Tryz.underlying112 Tryz.underlying5 Tryz.underlying9
        rw [show Om.byts [] = [] from rfl] at hconv0
        have hS0 : SRes (bs.drop a) most 0 n 0 := by simpa using hS'
        have HS0 := hide hS0
        clear hS0 HS hS' hbd hdl hc1 hby hbt hg isb hb hconv isz hR h2
        subst hcn
        rw [show a + n - a = n by omega] at isub
        go_enter Tryz.func212, Tryz.ntmps212
        go_wp2_with fail
        refine (small_any _ (bs.drop a) most 0 n 0 _ isub (by rw [List.length_drop]; omega) (by omega) (by omega) HS0.out).mono ?_
        rintro E w1 ⟨rfl, rfl⟩
        go_wp2
        go_ret3
        exact ⟨⟨#[]⟩, n + 0, _, _, rfl, rfl, HG.out, fun _ => ⟨by omega, by omega⟩⟩
      · clear hS' hbd hdl hc1 hby hbt hg isb hb
        go_enter Tryz.func212, Tryz.ntmps212
        go_wp2_with fail
        refine (small_any _ (bs.drop a) most un n 0 _ isub (by rw [List.length_drop]; omega) (by omega) (by omega) HS.out).mono ?_
        rintro E w1 ⟨rfl, rfl⟩
        go_wp2
        go_ret3
        exact ⟨⟨bt.toArray⟩, n + un, _, _, rfl, rfl, HG.out, fun _ => ⟨by omega, by omega⟩⟩
  · have HG := hide (cres_bad hS' (by simp) hm)
    have HS := hide hS'
    clear hS' hR hcase hc1 hby
    by_cases hca : c1 = a
    · subst hca
      have e1 : bs.length = c1 := by omega
      have e2 : bs.drop c1 = [] := List.drop_eq_nil_of_le (by omega)
      have isz : Is .u8 w (.slice (some ⟨b1, o1, none⟩) 0 0) [] := ⟨by simp, .inr ⟨_, 0, rfl, by simp, by simp, by simp⟩⟩
      rw [e2] at HS
      have E1 := hide e1
      clear e2
      go_enter Tryz.func212, Tryz.ntmps212
      go_wp2_with fail
      refine (small_any _ [] most 0 0 5 _ isz (by simp) (by omega) (by omega) HS.out).mono ?_
      rintro E w1 ⟨rfl, rfl⟩
      go_wp2
      go_ret3
      exact ⟨_, 0, _, _, rfl, rfl, .inr ⟨rfl, rfl, rfl, HG.out⟩, fun h => by simp at h⟩
    · go_enter Tryz.func212, Tryz.ntmps212
      go_wp2_with fail
      refine (small_any _ (bs.drop a) most 0 0 5 _ isub (by rw [List.length_drop]; omega) (by omega) (by omega) HS.out).mono ?_
      rintro E w1 ⟨rfl, rfl⟩
      go_wp2
      go_ret3
      exact ⟨_, 0, _, _, rfl, rfl, .inr ⟨rfl, rfl, rfl, HG.out⟩, fun h => by simp at h⟩

theorem empty_of {s : ByteArray} (h : s.data.toList = []) : s = ⟨#[]⟩ := by
  obtain ⟨⟨l⟩⟩ := s
  simp at h
  rw [h]

set_option maxHeartbeats 1000000 in
theorem oread_any (vb : Value) (bs : List Int) (w : World) (hb : Is .u8 w vb bs) (hl : bs.length ≤ 140737488355328) :
    Calls Tryz.prog 202 #[vb] w fun E w' => ∃ (p : Bool) (k v : ByteArray) (n e : Int), E = .returned (.tuple #[opv p k v, .int .i64 n, .int .i64 e]) ∧ Om.ORes bs p k.data.toList v.data.toList n e ∧ Below w.heap.size w w' := by
  unfold opv
  have bel0 : ∀ cs, Below w.heap.size w (w.alloc (.cells cs 81)) := fun cs => (Below.refl _ _).alloc (Nat.le_refl _) _
  by_cases h0 : 0 < bs.length
  · have hbw := hb.byte 0
    obtain ⟨b1, o1, c1, rfl, hcap, hcm, hB1, hc1⟩ := hb.full h0
    have hb0 := hb.below (bel0 #[.bool false, .string ⟨#[]⟩, .string ⟨#[]⟩])
    have g0 := hc1 0 h0
    obtain ⟨q, rest, rfl⟩ : ∃ q rest, bs = q :: rest := by
      cases bs with
      | nil => simp at h0
      | cons q r => exact ⟨q, r, rfl⟩
    simp only [List.getD_cons_zero, Nat.add_zero] at g0 hbw
    have hlr : (q :: rest).length = rest.length + 1 := rfl
    by_cases hq : 1 < q
    · have HG := hide (Om.ores_kind (b := q) (bs := rest) (by omega) (by omega))
      clear hc1 hb hb0
      go_enter Tryz.func202, Tryz.ntmps202
      go_wp2
      refine bodyPost_ret (v := .tuple #[.agg #[.bool false, .string ⟨#[]⟩, .string ⟨#[]⟩], .int .i64 0, .int .i64 5]) (by simp [results, Tryz.results202, go_sem]) rfl ?_
      exact ⟨_, _, _, _, _, rfl, HG.out, bel0 _⟩
    · have HL := hide hlr
      clear hc1 hlr
      go_enter Tryz.func202, Tryz.ntmps202
      go_wp2_with fail
      refine (rcount_any _ (q :: rest) 1 16 _ hb0 hl h0 (by omega) (by omega)).mono ?_
      rintro E w1 ⟨s, n, d, e, rfl, rfl, hR, hd⟩
      rw [List.drop_one, List.tail_cons] at hR
      have ZERO : ∀ w', Below w.heap.size w w' → Om.ORes (q :: rest) false [] [] 0 5 → ∃ (p : Bool) (k v : ByteArray) (n e : Int), Ending.returned (.tuple #[.agg #[.bool false, .string ⟨#[]⟩, .string ⟨#[]⟩], .int .i64 0, .int .i64 5]) = .returned (.tuple #[.agg #[.bool p, .string k, .string v], .int .i64 n, .int .i64 e]) ∧ Om.ORes (q :: rest) p k.data.toList v.data.toList n e ∧ Below w.heap.size w w' := fun w' hb' h => ⟨_, _, _, _, _, rfl, h, hb'⟩
      have HZ := hide ZERO
      clear ZERO
      have he : e = 0 ∨ e = 5 := by
        rcases hR with ⟨h, _⟩ | ⟨h, _⟩
        · exact .inl h
        · exact .inr h
      rcases he with rfl | rfl
      · obtain ⟨hd1, hd2⟩ := hd rfl
        subst hd1
        clear hd
        rw [HL.out] at hd2
        by_cases hs : s.data.toList = []
        · have HG := hide (Om.ores_key (b := q) hR (.inr hs))
          have hs' : s.toList.isEmpty = true := by rw [Lib.toList_data, hs]; rfl
          clear hR hs
          go_wp2
          refine bodyPost_ret (v := .tuple #[.agg #[.bool false, .string ⟨#[]⟩, .string ⟨#[]⟩], .int .i64 0, .int .i64 5]) (by simp [results, Tryz.results202, go_sem]) rfl ?_
          exact HZ.out _ (bel0 _) HG.out
        · have hs' : s.toList.isEmpty = false := by rw [Lib.toList_data]; simpa using hs
          rcases (show q = 0 ∨ q = 1 by omega) with rfl | rfl
          · have HG := hide (Om.ores_del hR hs)
            clear hR hs HZ
            go_wp2
            refine bodyPost_ret (v := .tuple #[.agg #[.bool false, .string s, .string ⟨#[]⟩], .int .i64 ((1 + n : Nat) : Int), .int .i64 0]) (by simp [results, Tryz.results202, go_sem]) rfl ?_
            exact ⟨_, _, _, _, _, rfl, HG.out, bel0 _⟩
          · have HR := hide hR
            have HS := hide hs
            clear hR hs
            go_wp2_with fail
            refine (rcount_any _ (1 :: rest) (1 + n) 32 _ hb0 hl h0 (by simp; omega) (by omega)).mono ?_
            rintro E w1 ⟨t, m, d, e, rfl, rfl, hT, hd⟩
            rw [Nat.add_comm 1 n, List.drop_succ_cons] at hT
            have he : e = 0 ∨ e = 5 := by
              rcases hT with ⟨h, _⟩ | ⟨h, _⟩
              · exact .inl h
              · exact .inr h
            rcases he with rfl | rfl
            · obtain ⟨hd1, hd2⟩ := hd rfl
              subst hd1
              clear hd
              have HG := hide (Om.ores_put HR.out HS.out hT)
              clear hT HZ
              go_wp2
              refine bodyPost_ret (v := .tuple #[.agg #[.bool true, .string s, .string t], .int .i64 ((1 + n + m : Nat) : Int), .int .i64 0]) (by simp [results, Tryz.results202, go_sem]) rfl ?_
              exact ⟨_, _, _, _, _, rfl, HG.out, bel0 _⟩
            · have HG := hide (Om.ores_val HR.out hT (by simp))
              clear hT hd
              go_wp2
              refine bodyPost_ret (v := .tuple #[.agg #[.bool false, .string ⟨#[]⟩, .string ⟨#[]⟩], .int .i64 0, .int .i64 5]) (by simp [results, Tryz.results202, go_sem]) rfl ?_
              exact HZ.out _ (bel0 _) HG.out
      · have HG := hide (Om.ores_key (b := q) hR (.inl (by simp)))
        clear hR hd
        go_wp2
        refine bodyPost_ret (v := .tuple #[.agg #[.bool false, .string ⟨#[]⟩, .string ⟨#[]⟩], .int .i64 0, .int .i64 5]) (by simp [results, Tryz.results202, go_sem]) rfl ?_
        exact HZ.out _ (bel0 _) HG.out
  · have : bs = [] := List.eq_nil_of_length_eq_zero (by omega)
    subst this
    obtain ⟨ao, c, rfl⟩ := hb.bare
    clear hb hl h0
    go_enter Tryz.func202, Tryz.ntmps202
    go_wp2
    refine bodyPost_ret (v := .tuple #[.agg #[.bool false, .string ⟨#[]⟩, .string ⟨#[]⟩], .int .i64 0, .int .i64 5]) (by simp [results, Tryz.results202, go_sem]) rfl ?_
    exact ⟨_, _, _, _, _, rfl, Om.ores_nil, bel0 _⟩

end Go.Proofs.YthmecljkackmbaaGreat
