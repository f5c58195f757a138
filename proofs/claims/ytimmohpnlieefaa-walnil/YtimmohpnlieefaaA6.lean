/- Texts of one layer, one behind the other. -/
import Derived.Test.YtimmohpnlieefaaA1
import Derived.Test.YtimmohpnlieefaaA2
import Derived.Lib.AppendZeros
/- Rows of lists of bytes in memory. No program but its types. -/
namespace Go.Proofs.Ytimmohpnlieefaa
open Go.RowKit
set_option linter.unusedVariables false

/-- A list of bytes of a row: its value, its bytes. -/
structure Bw where
  v : Value
  l : List Int

def bwc (a : Bw) : List Value := [a.v]
theorem bwc_len (a : Bw) : (bwc a).length = 1 := rfl

/-- A slice value that reads as the lists r. -/
def IsBB (w : World) (v : Value) (r : List Bw) : Prop := RowG bwc w v r ∧ ∀ a ∈ r, Is .u8 w a.v a.l

theorem IsBB.below {w w' : World} {v : Value} {r : List Bw} (h : IsBB w v r) (hb : Below w.heap.size w w') : IsBB w' v r := ⟨h.1.below hb, fun a ha => (h.2 a ha).below hb⟩

theorem IsBB.nil (w : World) : IsBB w (.slice none 0 0) [] := ⟨RowG.nil _ _, fun a ha => by simp at ha⟩

theorem IsBB.full {w : World} {v : Value} {r : List Bw} (h : IsBB w v r) (hne : 0 < r.length) :
    ∃ b off cap, v = .slice (some ⟨b, off, none⟩) r.length cap ∧ r.length ≤ cap ∧ cap ≤ maxLen ∧ b < w.heap.size ∧ ∀ i a, r[i]? = some a → w.cell? ⟨b, off + i, none⟩ = some a.v := by
  obtain ⟨b, off, cap, h1, h2, h3, h4, h5⟩ := h.1.full bwc_len (by decide) hne
  refine ⟨b, off, cap, h1, h2, h3, h4, fun i a ha => ?_⟩
  have := h5 i a ha 0 a.v rfl
  simpa using this

theorem bwc_one (l : List Bw) (h : ∀ a ∈ l, ∃ ao n c, a.v = .slice ao n c) : ∀ u ∈ gcells bwc l, u.oneCell' = true := by
  induction l with
  | nil => simp [gcells]
  | cons x l ih =>
    intro u hu
    rw [gcells, List.mem_append] at hu
    rcases hu with hu | hu
    · obtain ⟨a, n, c, hv⟩ := h x (by simp)
      simp [bwc] at hu
      rw [hu, hv]
      rfl
    · exact ih (fun y hy => h y (by simp [hy])) u hu

/-- Lists of the call's own, each in a block of its own, in a row of the call's own. -/
structure OwnB (base : Nat) (w : World) (v : Value) (r : List Bw) : Prop where
  row : OwnG bwc 1 37 base w v r
  own : ∀ a ∈ r, Own .u8 5 base w a.v a.l
  apart : r.Pairwise (fun a b => ∀ g, a.v.ownBlock = some g → b.v.ownBlock ≠ some g)

theorem OwnB.nil (base : Nat) (w : World) : OwnB base w (.slice none 0 0) [] := ⟨OwnG.nil _ _ _ _ _, fun a ha => by simp at ha, List.Pairwise.nil⟩

theorem OwnB.is {base : Nat} {w : World} {v : Value} {r : List Bw} (h : OwnB base w v r) : IsBB w v r := ⟨h.row.row, fun a ha => (h.own a ha).is⟩

theorem OwnB.below {base : Nat} {w w' : World} {v : Value} {r : List Bw} (h : OwnB base w v r) (hb : Below w.heap.size w w') : OwnB base w' v r :=
  ⟨h.row.agree fun b hb' => hb.block b (h.row.lt b hb').2, fun a ha => (h.own a ha).below hb, h.apart⟩

theorem bw_ne {w : World} {u v : Value} {b1 b2 : Nat} {r : List Bw} {zs : List Int} (h : Own .u8 5 b1 w u zs) (hr : OwnG bwc 1 37 b2 w v r) : u.ownBlock = none ∨ u.ownBlock ≠ v.ownBlock := by
  cases hu : u.ownBlock with
  | none => exact .inl rfl
  | some b =>
    refine .inr fun e' => ?_
    obtain ⟨c1, h1⟩ := h.type hu
    obtain ⟨c2, h2⟩ := hr.type e'.symm
    rw [h1] at h2
    simp at h2

/-- One list more, made since. -/
theorem OwnB.app {base : Nat} {w0 w w' : World} {v v' : Value} {r : List Bw} {a : Bw} (h : OwnB base w0 v r) (hb : Below w0.heap.size w0 w) (hbase : base ≤ w0.heap.size)
    (o1 : Own .u8 5 w0.heap.size w a.v a.l) (hr : OwnG bwc 1 37 base w' v' (r ++ [a])) (hg : w.grownBy w' v.ownBlock) : OwnB base w' v' (r ++ [a]) := by
  have k := h.below hb
  refine ⟨hr, fun c hc => ?_, List.pairwise_append.2 ⟨h.apart, List.pairwise_singleton _ _, fun c hc d hd => ?_⟩⟩
  · rcases List.mem_append.1 hc with hc | hc
    · exact (k.own c hc).kept hg (bw_ne (k.own c hc) k.row)
    · simp at hc
      subst hc
      exact (o1.rebase hbase).kept hg (bw_ne o1 k.row)
  · simp at hd
    subst hd
    intro g hg' e
    have h1 := ((h.own c hc).block g hg').2
    have h2 := (o1.block g e).1
    omega

end Go.Proofs.Ytimmohpnlieefaa

/- slices.Grow of nothing, slices.Concat, frame.Append. -/
namespace Go.Proofs.Ytimmohpnlieefaa
open Go.RowKit
set_option linter.unusedVariables false

theorem Try.intT : Try.prog.underlying 3 = some (.int .i64) := by kernel_rfl

theorem zeros_u8 (n : Nat) : (Builtin.zeroCells (Value.int .u8 0).cells n).toList = (List.replicate n (0 : Int)).map (Value.int .u8) := by
  apply List.ext_getElem?
  intro i
  simp [Builtin.zeroCells, Value.cells, List.getElem?_replicate]
  by_cases h : i < n <;> simp [h, Nat.mod_one]

/-- An append of zeros to nothing: a row of the call's own. -/
theorem run_zeros (w : World) (n : Nat) (h0 : 0 < n) (h1 : n ≤ 150000000000000) : Hid (∀ ty, ∃ v' w', (Builtin.append_ #[37, 3] ty #[.slice none 0 0, .int .i64 n]).run Try.prog w = .ok v' w' ∧ Own .u8 5 w.heap.size w' v' (List.replicate n 0) ∧ Below w.heap.size w w') := by
  obtain ⟨i, hi, hz, hsize, hb⟩ := info_parts Try.info5
  refine hide fun ty => ⟨_, _, Lib.run_append_nil_zeros w 37 3 ty 5 i (.int .u8 0) .i64 .i64 Try.underlying37 Try.intT hi hz n h0 (by omega) (by omega) (by rw [hb]; omega), ?_, ?_⟩
  · refine ⟨fun z hz => ?_, ?_⟩
    · rw [List.eq_of_mem_replicate hz]; rfl
    · rw [List.length_replicate]
      refine own_new w (Value.int .u8 0).cells rfl _ n _ (by simp [Value.cells]) (grownCap_ge w n 0 _) (grownCap_le_maxLen w n 0 _ (by unfold maxLen; omega)) (Nat.le_refl _) _ ?_
      rw [← zeros_u8 n]
  · exact (Below.refl _ _).grown (grown_new w _ none) (Nat.le_refl _) (fun k hk => by cases hk)

theorem wpList_append_ran {P : Program} {w : World} {ops : Array Oper} {rest : List Oper} {o : Oper} {a : Act} {Q : Exit → Act → World → Prop} (hgd : o.guard = none) (s x : Operand) (t tn : TypeId) (ho : o.op = .call { callee := .builtin .append, args := #[s, x], argTypes := #[t, tn] })
    (v vx : Value) (hs : a.eval s = v) (hx : a.eval x = vx) {R : Value → World → Prop} (hrun : ∀ ty, ∃ v' w', (Builtin.append_ #[t, tn] ty #[v, vx]).run P w = .ok v' w' ∧ R v' w')
    (h : ∀ v' w', R v' w' → wpList P ops Q rest (a.put o.dst v') w') : wpList P ops Q (o :: rest) a w := by
  obtain ⟨v', w', hr, hR⟩ := hrun o.type
  exact Lib.wpList_append_run w hgd s x t tn ho v vx hs hx v' w' hr (h v' w' hR)

set_option maxHeartbeats 1000000 in
theorem fgrow_any (n : Nat) (w : World) (h1 : n ≤ 150000000000000) :
    Calls Try.prog 113 #[.slice none 0 0, .int .i64 n] w fun E w' => ∃ v', E = .returned v' ∧ Own .u8 5 w.heap.size w' v' [] ∧ Below w.heap.size w w' := by
  have hn0 : ¬ (n : Int) < 0 := by omega
  have e1 : IntKind.i64.wrap ((n : Int) - 0) = n := by rw [wrap_i64_small _ (by omega) (by omega)]; omega
  have hsl := (Own.nil .u8 5 w.heap.size w).is.slice_h Try.elemP Try.sizeP 0 (by simp)
  by_cases h0 : 0 < n
  · have X := run_zeros w n h0 h1
    have hn1 : (0 : Int) < n := by omega
    go_enter Try.func113, Try.ntmps113
    go_wp2_with (at_builtin; refine wpList_append_ran rfl (.tmp 20) (.tmp 21) 37 3 rfl _ _ rfl rfl X.out ?_)
    intro v2 w2 own2 bel2
    obtain ⟨vs, hvs, owns, _⟩ := own2.slice_h Try.elemP Try.sizeP 0 (by omega)
    have hvs' := hvs w2
    simp only [Int.natCast_zero] at hvs'
    clear X hvs hsl own2
    go_wp2
    go_ret
    exact ⟨_, rfl, by simpa using owns, bel2⟩
  · obtain rfl : n = 0 := by omega
    clear e1
    go_enter Try.func113, Try.ntmps113
    go_wp2
    go_ret
    exact ⟨_, rfl, Own.nil _ _ _ _, Below.refl _ _⟩

end Go.Proofs.Ytimmohpnlieefaa

/- slices.Concat, frame.Append, frame.size. -/
namespace Go.Proofs.Ytimmohpnlieefaa
open Go.RowKit
set_option linter.unusedVariables false

/-- The bytes of a row's lists, one behind the other. -/
def flt : List Bw → List Int
  | [] => []
  | a :: r => a.l ++ flt r

theorem flt_app : ∀ r s : List Bw, flt (r ++ s) = flt r ++ flt s
  | [], s => rfl
  | a :: r, s => by simp [flt, flt_app r s]

theorem flt_next {r : List Bw} {k : Nat} {a : Bw} (h : r[k]? = some a) : flt (r.take (k + 1)) = flt (r.take k) ++ a.l := by
  obtain ⟨h1, h2⟩ := List.getElem?_eq_some_iff.1 h
  rw [List.take_succ_eq_append_getElem h1, flt_app, h2]
  simp [flt]

theorem flt_le (r : List Bw) (k : Nat) : (flt (r.take k)).length ≤ (flt r).length := by
  have : flt r = flt (r.take k) ++ flt (r.drop k) := by rw [← flt_app, List.take_append_drop]
  rw [this, List.length_append]
  omega

set_option maxHeartbeats 2000000 in
theorem concat_any (v : Value) (r : List Bw) (w : World) (h : IsBB w v r) (hr : r.length ≤ 1000) (hl : (flt r).length ≤ 150000000000000) :
    Calls Try.prog 100 #[v] w fun E w' => ∃ v', E = .returned v' ∧ Own .u8 5 w.heap.size w' v' (flt r) ∧ Below w.heap.size w w' := by
  obtain ⟨ao, cap, hv, hcap, hcm⟩ := h.1.shape
  have H := hide h
  subst hv
  clear h
  go_enter Try.func100, Try.ntmps100
  go_wp2
  go_loopw [3, 11] (fun sv iv wr => ∃ k : Nat, k ≤ r.length ∧ iv = .int .i64 k ∧ sv = .int .i64 (flt (r.take k)).length ∧ w = wr) (fun _ iv _ => r.length - (intOf iv).toNat)
  case atStart => exact ⟨0, by omega, rfl, rfl, rfl⟩
  case round =>
    obtain ⟨k, hk, rfl, rfl, rfl⟩ := hrel
    by_cases hlt : k < r.length
    · obtain ⟨b, off, cq, hvx, _, _, hB, hcell⟩ := H.out.full (by omega)
      simp only [Value.slice.injEq, true_and] at hvx
      obtain ⟨rfl, rfl⟩ := hvx
      obtain ⟨a, ha⟩ : ∃ a, r[k]? = some a := ⟨r[k], by rw [List.getElem?_eq_getElem]⟩
      have e4 := hcell k a ha
      obtain ⟨av, ac, hav, _, _⟩ := (H.out.2 a (List.mem_of_getElem? ha)).shape
      rw [hav] at e4
      have hlt' : (k : Int) < r.length := by omega
      have hn := flt_next ha
      have hm := flt_le r (k + 1)
      have hn2 : (flt (r.take (k + 1))).length = (flt (r.take k)).length + a.l.length := by rw [hn, List.length_append]
      have hn3 : ((flt (r.take (k + 1))).length : Int) = ((flt (r.take k)).length : Int) + (a.l.length : Int) := by omega
      generalize hq : (flt (r.take k)).length = q at *
      have e5 : IntKind.i64.wrap ((q : Int) + (a.l.length : Int)) = (q : Int) + a.l.length := wrap_i64_small _ (by omega) (by omega)
      have e6 : ¬ (q : Int) + (a.l.length : Int) < 0 := by omega
      have hk0 : (0 : Int) ≤ (k : Int) := by omega
      clear hcell hn hq hav ha
      go_wp2
      go_roundw
      case rel => exact ⟨k + 1, by omega, by go_num, by rw [hn3], trivial⟩
      case measure => simp [intOf]; omega
    · obtain rfl : k = r.length := by omega
      rw [List.take_length]
      have hlt' : ¬ (r.length : Int) < r.length := by omega
      go_wp2_with fail
      refine (fgrow_any (flt r).length _ hl).mono ?_
      rintro E w1 ⟨v1, rfl, own1, bel1⟩
      have H1 := hide (H.out.below bel1)
      go_wp2
      go_loopw [6, 27] (fun sv iv wr => ∃ k : Nat, k ≤ r.length ∧ iv = .int .i64 k ∧ Own .u8 5 w.heap.size wr sv (flt (r.take k)) ∧ Below w.heap.size w wr) (fun _ iv _ => r.length - (intOf iv).toNat)
      case atStart => exact ⟨0, by omega, rfl, own1, bel1⟩
      case round =>
        clear own1 bel1 H1
        obtain ⟨k, hk, rfl, own, bel⟩ := hrel
        have szr := bel.size
        by_cases hlt : k < r.length
        · have H2 := H.out.below bel
          obtain ⟨b, off, cq, hvx, _, _, hB, hcell⟩ := H2.full (by omega)
          simp only [Value.slice.injEq, true_and] at hvx
          obtain ⟨rfl, rfl⟩ := hvx
          obtain ⟨a, ha⟩ : ∃ a, r[k]? = some a := ⟨r[k], by rw [List.getElem?_eq_getElem]⟩
          have e4 := hcell k a ha
          have isa := H2.2 a (List.mem_of_getElem? ha)
          have hlt' : (k : Int) < r.length := by omega
          have hn := hide (flt_next ha)
          have hm := flt_le r (k + 1)
          have hn2 : (flt (r.take (k + 1))).length = (flt (r.take k)).length + a.l.length := by rw [hn.out, List.length_append]
          have hk0 : (0 : Int) ≤ (k : Int) := by omega
          have sum : (flt (r.take k)).length + a.l.length ≤ 150000000000000 := by omega
          clear hcell ha H2 hn2 hm
          generalize flt (r.take k) = q at *
          go_wp2_with (at_builtin; refine wpList_append_is rfl (.tmp 31) (.tmp 32) 37 rfl .u8 5 w.heap.size 1 Try.underlying37 Try.info5 (by decide) _ q rfl own _ a.l rfl isa (by simp; omega) szr ?_)
          intro v2 w2 own2 bel2 _
          rw [← hn.out] at own2
          have b3 := bel.trans bel2
          clear own isa e4 bel2
          go_wp2
          go_roundw
          case rel => exact ⟨k + 1, by omega, by go_num, own2, b3⟩
          case measure => simp [intOf]; omega
        · obtain rfl : k = r.length := by omega
          rw [List.take_length] at own
          have hlt' : ¬ (r.length : Int) < r.length := by omega
          go_wp2
          go_ret
          exact ⟨_, rfl, own, bel⟩

/-- What Append answers. -/
def apd (bs r : List Int) : List Int := if r.length ≤ 131072 then bs ++ Fm.frm r else []
def ape (r : List Int) : Int := if r.length ≤ 131072 then 0 else 3

theorem conv_len (n : Nat) (h : n ≤ 140737488355328) : IntKind.u64.wrap (n : Int) = n := by
  rw [IntKind.wrap_u64]; omega

set_option maxHeartbeats 2000000 in
theorem fapp_any (vb vr : Value) (bs r : List Int) (w : World) (hb : Is .u8 w vb bs) (hr : Is .u8 w vr r) (hl : bs.length ≤ 140737488351232) (hl' : r.length ≤ 140737488351232) :
    Calls Try.prog 78 #[vb, vr] w fun E w' => ∃ v', E = .returned (.tuple #[v', .int .i64 (ape r)]) ∧ Own .u8 5 w.heap.size w' v' (apd bs r) ∧ Below w.heap.size w w' := by
  obtain ⟨ro, rc, hv, hcap, hcm⟩ := hr.shape
  subst hv
  obtain ⟨bo, bc, hv, hcap', hcm'⟩ := hb.shape
  subst hv
  have HB := hide hb
  have HR := hide hr
  clear hb hr
  by_cases hlong : r.length ≤ 131072
  · have e1 : ape r = 0 := if_pos hlong
    have e2 : apd bs r = bs ++ Fm.frm r := if_pos hlong
    rw [e1, e2]
    have hn : ¬ (131072 : Int) < (r.length : Int) := by omega
    have e3 : IntKind.u64.wrap (r.length : Int) = r.length := conv_len _ (by omega)
    have hz := Fm.sz3 hlong
    clear e1 e2
    go_enter Try.func78, Try.ntmps78
    go_wp2_with fail
    refine (app_any (.slice none 0 0) [] (r.length : Int) _ (Own.nil .u8 5 w.heap.size w).is (by simp) (by omega) (by omega)).mono ?_
    rintro E w1 ⟨v1, rfl, own1, bel1⟩
    rw [List.nil_append, Int.toNat_natCast] at own1
    obtain ⟨no, nc, hv, _, _⟩ := own1.is.shape
    subst hv
    generalize hvn : Value.slice no (Vm.enc r.length).length nc = v1 at *
    generalize hvb : Value.slice bo bs.length bc = vb at *
    obtain ⟨w2, hw2, sz2, bel2, B2⟩ := blk_step w1 #[vb, v1, .slice ro r.length rc] 37
    have row : IsBB w2 (.slice (some ⟨w1.heap.size, 0, none⟩) 3 3) [⟨vb, bs⟩, ⟨v1, Vm.enc r.length⟩, ⟨.slice ro r.length rc, r⟩] := by
      refine ⟨?_, ?_⟩
      · obtain ⟨W, hW, _, _, ho⟩ := rows_step bwc 1 bwc_len 37 w1 #[vb, v1, .slice ro r.length rc] 3 [⟨vb, bs⟩, ⟨v1, Vm.enc r.length⟩, ⟨.slice ro r.length rc, r⟩] rfl rfl (by unfold maxLen; omega)
        rw [← hw2, hW]
        exact ho.row
      · intro a ha
        simp at ha
        rcases ha with rfl | rfl | rfl
        · exact (HB.out.below bel1).below bel2
        · exact (own1.below bel2).is
        · exact (HR.out.below bel1).below bel2
    have szs := bel1.size
    have HC := hide (concat_any _ _ w2 row (by simp) (by simp [flt]; have : (Vm.enc r.length).length ≤ 3 := hz; omega))
    have b02 : Below w.heap.size w w2 := bel1.trans (bel2.mono szs)
    clear own1 row bel1 bel2 B2
    subst hvn hvb
    go_wp2_with fail
    refine HC.out.mono ?_
    rintro E w3 ⟨v3, rfl, own3, bel3⟩
    have own4 : Own .u8 5 w2.heap.size w3 v3 (bs ++ Fm.frm r) := by simpa [flt, Fm.frm] using own3
    clear HC own3
    go_wp2
    go_ret2
    exact ⟨_, rfl, own4.rebase (by omega), b02.trans (bel3.mono (by omega))⟩
  · have e1 : ape r = 3 := if_neg hlong
    have e2 : apd bs r = [] := if_neg hlong
    rw [e1, e2]
    have hn : (131072 : Int) < (r.length : Int) := by omega
    go_enter Try.func78, Try.ntmps78
    go_wp2
    go_ret2
    exact ⟨_, rfl, Own.nil _ _ _ _, Below.refl _ _⟩

end Go.Proofs.Ytimmohpnlieefaa

/- frame.Read. -/
namespace Go.Proofs.Ytimmohpnlieefaa
open Go.RowKit
set_option linter.unusedVariables false

theorem sres_step {bs : List Int} {most : Nat} {u i g : Int} (hm : most < 18446744073709551616) (h : SRes bs most u i g) :
    (∃ x : Nat, u = x ∧ i = Vm.sz x ∧ g = 0 ∧ x ≤ most ∧ Vm.enc x <+: bs) ∨ (u = 0 ∧ i = 0 ∧ g = 5 ∧ ∀ x : Nat, x ≤ most → ¬ Vm.enc x <+: bs) := by
  rcases h with ⟨hR, h1, h2, he⟩ | ⟨hu, hi, he, x, n, f, hR, hcase⟩
  · rcases hR with ⟨x, hx, hp, h3, h4, _⟩ | ⟨_, _, _, h5⟩
    · exact .inl ⟨x, h3, h4, he, by omega, hp⟩
    · simp at h5
  · refine .inr ⟨hu, hi, he, fun y hy hp => ?_⟩
    have := Vm.res_good hR (u := y) (by omega) hp
    omega

theorem rd_bad {bs : List Int} (h : ∀ x : Nat, x ≤ 131072 → ¬ Vm.enc x <+: bs) : Fm.Rd bs [] 0 5 := .inr ⟨rfl, rfl, rfl, fun s hs hp => h _ hs (Fm.frm_pre hp).1⟩

theorem rd_short {bs : List Int} {x : Nat} (h : Vm.enc x <+: bs) (hx : bs.length - Vm.sz x < x) : Fm.Rd bs [] 0 5 := .inr ⟨rfl, rfl, rfl, fun s hs hp => by
  obtain ⟨h1, h2, _⟩ := Fm.frm_pre hp
  have := Vm.pre_one bs _ _ h h1
  subst this
  omega⟩

theorem rd_good {bs : List Int} {x : Nat} (h : Vm.enc x <+: bs) (h' : x ≤ 131072) (hx : x ≤ bs.length - Vm.sz x) : Fm.Rd bs ((bs.drop (Vm.sz x)).take x) (Vm.sz x + x) 0 := by
  obtain ⟨h1, h2⟩ := Fm.frm_of h hx
  exact .inl ⟨rfl, by omega, by rw [h1], h2⟩

set_option maxHeartbeats 1000000 in
theorem fread_any (vb : Value) (bs : List Int) (w : World) (hb : Is .u8 w vb bs) (hl : bs.length ≤ 150000000000000) :
    Calls Try.prog 75 #[vb] w fun E w' => ∃ (v : Value) (r : List Int) (n : Nat) (e : Int), E = .returned (.tuple #[v, .int .i64 n, .int .i64 e]) ∧ Own .u8 5 w.heap.size w' v r ∧ Below w.heap.size w w' ∧ Hid (Fm.Rd bs r n e) := by
  obtain ⟨u, i, g, hS⟩ := sres_is bs ((131072 : Nat) : Int)
  have HS := hide (small_any vb bs _ u i g w hb hl (by omega) (by omega) hS)
  rcases sres_step (by omega) hS with ⟨x, rfl, rfl, rfl, hx, hp⟩ | ⟨rfl, rfl, rfl, hno⟩
  · have hz := Fm.sz3 hx
    have hpl : Vm.sz x ≤ bs.length := hp.length_le
    by_cases hlong : x ≤ bs.length - Vm.sz x
    · have R := hide (rd_good hp hx hlong)
      obtain ⟨vs, hsl, isl⟩ := hb.slice_lh Try.elemP Try.sizeP (Vm.sz x) (Vm.sz x + x) (by omega) (by omega)
      rw [show Vm.sz x + x - Vm.sz x = x by omega] at isl
      have hlt : ((bs.drop (Vm.sz x)).take x).length ≤ 131072 := by rw [List.length_take, List.length_drop]; omega
      have HC := hide (bclone_any vs _ w isl (by omega))
      obtain ⟨ao, cap, hv, hcap, hcm⟩ := hb.shape
      subst hv
      clear hb isl hlt hS hp
      generalize (bs.drop (Vm.sz x)).take x = r at *
      generalize Vm.sz x = m at *
      have e1 : IntKind.i64.wrap ((bs.length : Int) - (m : Int)) = (bs.length : Int) - m := wrap_i64_small _ (by omega) (by omega)
      have e2 : IntKind.i64.wrap ((m : Int) + (x : Int)) = (m : Int) + x := wrap_i64_small _ (by omega) (by omega)
      have e3 : ¬ (bs.length : Int) - m < x := by omega
      have hsl2 : ∀ wx, (Instr.slice 37 (.slice ao bs.length cap) (some (.int .i64 (m : Int))) (some (.int .i64 ((m : Int) + (x : Int)))) none).run Try.prog wx = .ok vs wx := by simpa using hsl
      clear hsl
      go_enter Try.func75, Try.ntmps75
      go_wp2_with fail
      refine HS.out.mono ?_
      rintro E w1 ⟨rfl, rfl⟩
      clear HS
      go_wp2_with fail
      refine HC.out.mono ?_
      rintro E w2 ⟨v2, rfl, own2, bel2⟩
      clear HC hsl2
      go_wp2
      go_ret3
      exact ⟨v2, r, m + x, 0, by simp, own2, bel2, R⟩
    · have R := hide (rd_short hp (by omega))
      obtain ⟨ao, cap, hv, hcap, hcm⟩ := hb.shape
      subst hv
      clear hb hS hp
      generalize Vm.sz x = m at *
      have e1 : IntKind.i64.wrap ((bs.length : Int) - (m : Int)) = (bs.length : Int) - m := wrap_i64_small _ (by omega) (by omega)
      have e3 : (bs.length : Int) - m < x := by omega
      go_enter Try.func75, Try.ntmps75
      go_wp2_with fail
      refine HS.out.mono ?_
      rintro E w1 ⟨rfl, rfl⟩
      clear HS
      go_wp2
      go_ret3
      exact ⟨_, [], 0, 5, rfl, Own.nil _ _ _ _, Below.refl _ _, R⟩
  · have R := hide (rd_bad hno)
    clear hb hS hno
    go_enter Try.func75, Try.ntmps75
    go_wp2_with fail
    refine HS.out.mono ?_
    rintro E w1 ⟨rfl, rfl⟩
    clear HS
    go_wp2
    go_ret3
    exact ⟨_, [], 0, 5, rfl, Own.nil _ _ _ _, Below.refl _ _, R⟩

end Go.Proofs.Ytimmohpnlieefaa
