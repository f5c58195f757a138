/- The statements' helpers on links: flights, small, the first examples. -/
import Derived.Test.YtadfbmglbaebiaaLg
import Derived.Test.YtadfbmglbaebiaaPick
import Derived.BigQuiet
namespace Go.Proofs.Ytadfbmglbaebiaa
open Go.RowKit Go.Shelf
set_option linter.unusedVariables false

/-- A slice of letters that reads as rs. -/
def RowL (w : World) (v : Value) (rs : List Lw) : Prop := RowG letc w v rs ∧ ∀ r ∈ rs, Is .u8 w r.v r.bs

theorem RowL.below {w w' : World} {v : Value} {rs : List Lw} (h : RowL w v rs) (hb : Below w.heap.size w w') : RowL w' v rs := ⟨h.1.below hb, fun r hr => (h.2 r hr).below hb⟩

theorem LCopy.rowl {base : Nat} {w : World} {v : Value} {ns : List Lw} (h : LCopy base w v ns) : RowL w v ns := ⟨h.1.row, fun r hr => (h.2.1 r hr).is⟩

theorem RowL.full {w : World} {v : Value} {rs : List Lw} (h : RowL w v rs) (hne : 0 < rs.length) :
    ∃ b off cap, v = .slice (some ⟨b, off, none⟩) rs.length cap ∧ rs.length ≤ cap ∧ cap ≤ maxLen ∧ b < w.heap.size ∧ ∀ i r, rs[i]? = some r → w.cell? ⟨b, off + i * 3, none⟩ = some (.int .i64 r.n) ∧ w.cell? ⟨b, off + i * 3 + 1, none⟩ = some (.int .i64 r.to) ∧ w.cell? ⟨b, off + i * 3 + 2, none⟩ = some r.v := by
  obtain ⟨b, off, cap, h1, h2, h3, h4, h5⟩ := h.1.full letc_len (by decide) hne
  exact ⟨b, off, cap, h1, h2, h3, h4, fun i a hi => ⟨h5 i a hi 0 _ rfl, h5 i a hi 1 _ rfl, h5 i a hi 2 _ rfl⟩⟩

set_option maxRecDepth 100000 in
set_option maxHeartbeats 4000000 in
theorem flights_any (va vb : Value) (rs ss : List Lw) (w : World) (ha : RowL w va rs) (hb : RowL w vb ss) (he : rs.map Lw.l = ss.map Lw.l) (hbl : ∀ r ∈ rs, r.bs.length ≤ 40) (hl : rs.length ≤ 1000000) :
    Calls Try.prog 19 #[va, vb] w fun E w' => E = .returned (.bool true) ∧ ∃ m, w' = w.drewN m := by
  have hlen : rs.length = ss.length := by have := congrArg List.length he; simpa using this
  obtain ⟨a1, c1, hv1, _, _⟩ := ha.1.shape
  obtain ⟨a2, c2, hv2, _, _⟩ := hb.1.shape
  rw [← hlen] at hv2
  have HA := hide ha
  have HB := hide hb
  have HE := hide he
  have HBL := hide hbl
  have HL := hide hlen
  subst hv1 hv2
  clear ha hb he hbl hlen
  go_enter Try.func19, Try.ntmps19
  go_wp2
  go_loopw [5] (fun iv wr => ∃ k : Nat, k ≤ rs.length ∧ iv = .int .i64 k ∧ Hid (∃ m, wr = w.drewN m)) (fun iv _ => rs.length - (intOf iv).toNat)
  case atStart => exact ⟨0, by omega, rfl, hide ⟨0, rfl⟩⟩
  case round =>
    obtain ⟨k, hk, rfl, HW⟩ := hrel
    by_cases hlt : k < rs.length
    · have bd : Below w.heap.size w wr := by
        obtain ⟨m, rfl⟩ := HW.out
        exact below_drewN (Below.refl w.heap.size w) m
      have hA := HA.out.below bd
      have hB := HB.out.below bd
      have hl2 := HL.out
      obtain ⟨b1, o1, q1, hvx1, _, _, _, hc1⟩ := hA.full (by omega)
      obtain ⟨b2, o2, q2, hvx2, _, _, _, hc2⟩ := hB.full (by omega)
      simp only [Value.slice.injEq, true_and] at hvx1 hvx2
      obtain ⟨rfl, rfl⟩ := hvx1
      obtain ⟨rfl, hjk, rfl⟩ := hvx2
      obtain ⟨r, hr⟩ : ∃ r, rs[k]? = some r := ⟨rs[k], by rw [List.getElem?_eq_getElem]⟩
      obtain ⟨s, hs⟩ : ∃ s, ss[k]? = some s := ⟨ss[k], by rw [List.getElem?_eq_getElem]⟩
      have hrs : r.l = s.l := by
        have h1 : (rs.map Lw.l)[k]? = some r.l := by rw [List.getElem?_map, hr]; rfl
        have h2 : (ss.map Lw.l)[k]? = some s.l := by rw [List.getElem?_map, hs]; rfl
        rw [HE.out, h2] at h1
        simpa using h1.symm
      obtain ⟨x0, x1, x2⟩ := hc1 k r hr
      obtain ⟨y0, y1, y2⟩ := hc2 k s hs
      have isr := hA.2 r (List.mem_of_getElem? hr)
      have iss := hB.2 s (List.mem_of_getElem? hs)
      have hlr := HBL.out r (List.mem_of_getElem? hr)
      have e0 : s.n = r.n := (congrArg Lm.Lt.n hrs).symm
      have e1 : s.to = r.to := (congrArg Lm.Lt.to hrs).symm
      have e2 : s.bs = r.bs := (congrArg Lm.Lt.bs hrs).symm
      rw [e0] at y0
      rw [e1] at y1
      rw [e2] at iss
      obtain ⟨ar, nr, cr, hrv⟩ := isr.form
      obtain ⟨az, nz, cz, hsv⟩ := iss.form
      rw [hrv] at x2 isr
      rw [hsv] at y2 iss
      have hk0 : (0 : Int) ≤ (k : Int) := by omega
      have hkl : (k : Int) < rs.length := by omega
      clear hjk hA hB hc1 hc2 hr hs hrs e0 e1 e2 hrv hsv HE HBL hl2
      go_wp2
      go_quiet ((go_at_call 37; refine Calls.quiet_of (same_bool _ _ _ _ true _ (isr.drewN _) (iss.drewN _) (by omega) (by omega) (by simp))))
      go_wp2
      go_roundw
      case rel =>
        refine ⟨k + 1, by omega, by go_num, hide ?_⟩
        obtain ⟨m, rfl⟩ := HW.out
        exact ⟨_, World.drewN_drewN _ _ _⟩
      case measure => simp [intOf]; omega
    · have hkl : ¬ (k : Int) < rs.length := by omega
      go_wp2
      go_ret
      exact ⟨rfl, HW.out⟩

end Go.Proofs.Ytadfbmglbaebiaa
