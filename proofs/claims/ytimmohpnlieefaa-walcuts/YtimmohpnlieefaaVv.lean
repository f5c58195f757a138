/- The calls of the statements on logs, in memory: small, next, begins. -/
import Derived.Test.YtimmohpnlieefaaVs
import Derived.Test.YtimmohpnlieefaaPick
import Derived.Test.YtimmohpnlieefaaA1
import Derived.Deep.RegionLaw
namespace Go.Proofs.Ytimmohpnlieefaa
open Go.RowKit
set_option linter.unusedVariables false

/-- A call as it stands in memory. -/
structure Ac where
  k : Int
  n : Int
  t : Int
  c : Cw

def acc (a : Ac) : List Value := [.int .i64 a.k, .int .i64 a.n, .int .i64 a.t, .int .i64 a.c.e, .int .i64 a.c.n, a.c.v]
theorem acc_len (a : Ac) : (acc a).length = 6 := rfl

/-- What a call's parts are. -/
def AcOk (w : World) (a : Ac) : Prop := IsO w a.c.v a.c.l ∧ (I64 a.k ∧ I64 a.n ∧ I64 a.t) ∧ In64 a.c.e ∧ In64 a.c.n

/-- A slice of calls. -/
def IsQ (w : World) (v : Value) (l : List Ac) : Prop := RowG acc w v l ∧ ∀ a ∈ l, AcOk w a
def FitQ (l : List Ac) : Prop := ∀ a ∈ l, FitO a.c.l ∧ a.c.l.length * 40 ≤ 140737488351232

theorem AcOk.below {w w' : World} {a : Ac} (h : AcOk w a) (hb : Below w.heap.size w w') : AcOk w' a := ⟨h.1.below hb, h.2⟩
theorem IsQ.below {w w' : World} {v : Value} {l : List Ac} (h : IsQ w v l) (hb : Below w.heap.size w w') : IsQ w' v l := ⟨h.1.below hb, fun a ha => (h.2 a ha).below hb⟩

theorem IsQ.full {w : World} {v : Value} {l : List Ac} (h : IsQ w v l) (hne : 0 < l.length) :
    ∃ b off cap, v = .slice (some ⟨b, off, none⟩) l.length cap ∧ l.length ≤ cap ∧ cap ≤ maxLen ∧ b < w.heap.size ∧
      ∀ i a, l[i]? = some a → w.cell? ⟨b, off + i * 6, none⟩ = some (.int .i64 a.k) ∧ w.cell? ⟨b, off + i * 6 + 1, none⟩ = some (.int .i64 a.n) ∧ w.cell? ⟨b, off + i * 6 + 2, none⟩ = some (.int .i64 a.t) ∧ w.cell? ⟨b, off + i * 6 + 3, none⟩ = some (.int .i64 a.c.e) ∧ w.cell? ⟨b, off + i * 6 + 4, none⟩ = some (.int .i64 a.c.n) ∧ w.cell? ⟨b, off + i * 6 + 5, none⟩ = some a.c.v := by
  obtain ⟨b, off, cap, hv, h1, h2, h3, h4⟩ := h.1.full acc_len (by decide) hne
  refine ⟨b, off, cap, hv, h1, h2, h3, fun i a ha => ?_⟩
  have := h4 i a ha
  exact ⟨by simpa using this 0 _ rfl, by simpa using this 1 _ rfl, by simpa using this 2 _ rfl, by simpa using this 3 _ rfl, by simpa using this 4 _ rfl, by simpa using this 5 _ rfl⟩

/-- Is a script gone through? -/
def smQ (l : List Ac) : Bool := l.all (fun a => decide (a.c.l.length ≤ 60)) && decide (l.length ≤ 60)

set_option maxHeartbeats 1000000 in
theorem qsmall_any (v : Value) (l : List Ac) (w : World) (h : IsQ w v l) (hl : l.length ≤ 140737488355328) (hf : FitQ l) : Calls Try.prog 26 #[v] w fun E w' => E = .returned (.bool (smQ l)) ∧ w = w' := by
  have H := hide h
  have HFQ := hide hf
  obtain ⟨ao, cap, hv, hcap, hcm⟩ := h.1.shape
  subst hv
  clear h hf
  go_enter Try.func26, Try.ntmps26
  go_wp2
  go_loopw [3] (fun iv wr => ∃ k : Nat, k ≤ l.length ∧ iv = .int .i64 k ∧ w = wr ∧ Hid ((l.take k).all (fun a => decide (a.c.l.length ≤ 60)) = true)) (fun iv _ => l.length - (intOf iv).toNat)
  case atStart => exact ⟨0, by omega, rfl, rfl, hide (by simp)⟩
  case round =>
    obtain ⟨k, hk, rfl, rfl, HT⟩ := hrel
    by_cases hlt : k < l.length
    · obtain ⟨b, off, cq, hvx, _, _, hB, hcell⟩ := H.out.full (by omega)
      simp only [Value.slice.injEq, true_and] at hvx
      obtain ⟨rfl, rfl⟩ := hvx
      obtain ⟨a, ha⟩ : ∃ a, l[k]? = some a := ⟨l[k], by rw [List.getElem?_eq_getElem]⟩
      obtain ⟨_, _, _, _, _, e5⟩ := hcell k a ha
      obtain ⟨av, ac, hav, _, _⟩ := (H.out.2 a (List.mem_of_getElem? ha)).1.shape
      have hfl := (HFQ.out a (List.mem_of_getElem? ha)).2
      rw [hav] at e5
      have hlt' : (k : Int) < l.length := by omega
      have hk0 : (0 : Int) ≤ (k : Int) := by omega
      obtain ⟨hkl, hke⟩ := List.getElem?_eq_some_iff.1 ha
      by_cases hbig : a.c.l.length ≤ 60
      · have hb1 : ¬ (60 : Int) < (a.c.l.length : Int) := by omega
        have HT2 : Hid ((l.take (k + 1)).all (fun a => decide (a.c.l.length ≤ 60)) = true) := hide (by
          rw [List.take_succ_eq_append_getElem hkl, List.all_append, HT.out, hke]
          simp [hbig])
        clear hcell ha hke hav hfl
        go_wp2
        go_roundw
        case rel => exact ⟨k + 1, by omega, by go_num, trivial, HT2⟩
        case measure => simp [intOf]; omega
      · have hb1 : (60 : Int) < (a.c.l.length : Int) := by omega
        have hs : smQ l = false := by
          unfold smQ
          rw [Bool.and_eq_false_iff]
          left
          rw [List.all_eq_false]
          exact ⟨a, List.mem_of_getElem? ha, by simpa using hbig⟩
        have HS := hide hs
        clear hcell ha hke hav hs hfl
        go_wp2
        go_ret
        exact ⟨by rw [HS.out]; rfl, rfl⟩
    · have hlt' : ¬ (k : Int) < l.length := by omega
      have hs : smQ l = decide ((l.length : Int) ≤ 60) := by
        unfold smQ
        have hkl : l.take k = l := List.take_of_length_le (by omega)
        have := HT.out
        rw [hkl] at this
        rw [this, Bool.true_and]
        congr 1
        exact propext ⟨fun h => by omega, fun h => by omega⟩
      have HS := hide hs
      clear hs
      go_wp2
      go_ret
      exact ⟨by rw [HS.out]; rfl, rfl⟩

theorem Try.enters34 : ∀ args w, (callFunc 34 args).run Try.prog w = .ok (.enter 34 args) w := enters_of Try.func34 (by kernel_rfl) rfl

/-- The commit of an act. -/
def nxt (a : Ac) (ep : Int) (en : Nat) : Cw := ⟨(if 1 < ep then ep else 1) + pk a.n 3, en + 1, a.c.v, a.c.l⟩

theorem nxt_64 (a : Ac) (ep : Int) (en : Nat) (he : 0 ≤ ep ∧ ep ≤ 1048576) (hn : en ≤ 1048576) : In64 (nxt a ep en).e ∧ In64 (nxt a ep en).n := by
  obtain ⟨hp0, hp1⟩ := pk_lt a.n 3 (by omega)
  unfold nxt In64
  simp only
  split <;> exact ⟨⟨by omega, by omega⟩, ⟨by omega, by omega⟩⟩

set_option maxRecDepth 20000 in
set_option maxHeartbeats 2000000 in
theorem next_any (a : Ac) (ep : Int) (en : Nat) (w : World) (h : AcOk w a) (he : 0 ≤ ep ∧ ep ≤ 1048576) (hn : en ≤ 1048576) :
    Calls Try.prog 28 #[.agg #[.int .i64 a.k, .int .i64 a.n, .int .i64 a.t, .int .i64 a.c.e, .int .i64 a.c.n, a.c.v], .int .i64 ep, .int .i64 en] w fun E w' => E = .returned (cmv (nxt a ep en).e (nxt a ep en).n a.c.v) ∧ Below w.heap.size w w' := by
  obtain ⟨ao, cap, hv, _, _⟩ := h.1.shape
  obtain ⟨w1, hw1, sz1, bel1, hB⟩ := blk_step w #[.int .i64 a.k, .int .i64 a.n, .int .i64 a.t, .int .i64 a.c.e, .int .i64 a.c.n, a.c.v] 65
  obtain ⟨w2, hw2, sz2, bel2, hR⟩ := blk_step w1 #[.int .i64 0, .int .i64 0, .slice none 0 0] 32
  have hB2 := (bel2.block w.heap.size (by omega)).trans hB
  have c1 : w2.cell? ⟨w.heap.size, 1, none⟩ = some (.int .i64 a.n) := blk_cell hB2 1 rfl
  have c5 : w2.cell? ⟨w.heap.size, 5, none⟩ = some a.c.v := blk_cell hB2 5 rfl
  rw [sz1] at hR
  have bel02 : Below w.heap.size w w2 := bel1.trans (bel2.mono (by omega))
  obtain ⟨hp0, hp1⟩ := pk_lt a.n 3 (by omega)
  obtain ⟨mx, hmx⟩ : ∃ mx : Int, (if 1 < ep then ep else 1) = mx := ⟨_, rfl⟩
  have hmb : 1 ≤ mx ∧ mx ≤ 1048576 := by rw [← hmx]; split <;> omega
  obtain ⟨V', hV', bV', gV', ⟨a0, a1, a2⟩, ⟨f0, f1, f2⟩, ⟨z0, z1, z2⟩⟩ := res_step hR (.int .i64 (mx + pk a.n 3)) (.int .i64 ((en : Int) + 1)) a.c.v
  have belV' := below_put bel02 gV' (by omega) (by omega)
  have HP : Hid (Calls Try.prog 34 #[.int .i64 a.n, .int .i64 3] w2.drew fun E w' => ∃ v, E = .returned v ∧ (v = .int .i64 (pk a.n 3) ∧ w2.drew = w')) := hide ((pickx_any a.n 3 w2.drew (by omega) (by omega) h.2.1.2.1).mono fun E w' h => ⟨_, h.1, rfl, h.2⟩)
  have hw3 : IntKind.i64.wrap (mx + pk a.n 3) = mx + pk a.n 3 := wrap_i64_small _ (by omega) (by omega)
  have hw4 : IntKind.i64.wrap ((en : Int) + 1) = (en : Int) + 1 := wrap_i64_small _ (by omega) (by omega)
  rw [hv] at hw1 c5 hV' z2 ⊢
  unfold cmv nxt
  simp only
  rw [hmx]
  generalize pk a.n 3 = pp at *
  clear h hB hB2 hR bel1 bel2 bV' gV' hv bel02
  go_enter Try.func28, Try.ntmps28
  go_wp2_with fail
  go_region_law (refine call_at rfl 34 #[.tmp 10, .const (.int .i64 3)] #[3, 3] rfl Try.enters34 #[.int .i64 a.n, .int .i64 3] (by first | rfl | (simp [Act.eval]; done) | (simp [Act.eval, Act.put]; done)) HP.out ?_; rintro _ _ ⟨rfl, rfl⟩)
  all_goals
    go_wp2
    refine bodyPost_ret (v := .agg #[.int .i64 (mx + pp), .int .i64 ((en : Int) + 1), .slice ao a.c.l.length cap]) (by simp [results, Try.results28, go_sem, z0, z1, z2]) rfl ?_
    exact ⟨rfl, belV'.drew⟩

theorem begins_yes (va vb : Value) (r s : List Cw) (w : World) (ha : IsC w va r) (hb : IsC w vb s) (fa : FitC r) (fb : FitC s) (hl : r.length ≤ 1048576) (hp : cvs s <+: cvs r) :
    Calls Try.prog 33 #[va, vb] w fun E w' => E = .returned (.bool true) ∧ Below w.heap.size w w' := by
  have hsl : s.length ≤ r.length := by
    have := hp.length_le
    rwa [cvs_length, cvs_length] at this
  obtain ⟨vs, hvs, rows⟩ := ha.1.slice_h Try.elemC Try.sizeC s.length hsl
  have SC := hide (sameCs_any vs vb (r.take s.length) s w ⟨rows, ha.2.take _⟩ hb (fa.take _) fb (by rw [List.length_take]; omega) (by omega))
  have e : cvs (r.take s.length) = cvs s := by
    rw [cvs_take, ← cvs_length s]
    obtain ⟨t, ht⟩ := hp
    rw [← ht, List.take_left]
  rw [e, sameV_self] at SC
  obtain ⟨a1, k1, hva, hk1, _⟩ := ha.1.shape
  obtain ⟨a2, k2, hvb, _, _⟩ := hb.1.shape
  have hvs' : vs = .slice a1 s.length k1 := by
    have := hvs w
    rw [hva, run_slice_h w 34 a1 r.length k1 Try.elemC .i64 _ (by omega) (by omega), Try.sizeC] at this
    simp only [Result.andThen, sliced] at this
    cases a1 <;> simp [Addr.add] at this <;> exact this.symm
  subst hva hvb hvs'
  have hle : (s.length : Int) ≤ (r.length : Int) := by omega
  have hcap : (s.length : Int) ≤ (k1 : Int) := by omega
  clear ha hb fa fb hp rows e hvs
  go_enter Try.func33, Try.ntmps33
  go_wp2_with fail
  refine SC.out.mono ?_
  rintro E w1 ⟨rfl, b1⟩
  go_wp2
  go_ret
  exact ⟨rfl, b1⟩

end Go.Proofs.Ytimmohpnlieefaa
