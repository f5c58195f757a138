/- Texts of one layer, one behind the other. -/
import Derived.Test.YtfnaeblbodfekaaGL
/- The program's Take and Known (layer 18). -/
namespace Go.Proofs.Ytfnaeblbodfekaa
open Go.RowKit
set_option linter.unusedVariables false

set_option maxRecDepth 20000 in
set_option maxHeartbeats 4000000 in
theorem pknown_any (e k : Int) (m : Mw) (c : Int) (w : World) (hi : IsM w m) (hf : FitM m) (hc : Mm.Ck m.m c) (he : In64 e) (hk : In64 k) :
    Calls Try.prog 10 #[.int .i64 e, .int .i64 k, mv m] w fun E w' => E = .returned (.tuple #[.int .i64 (Tak.knV c e k m.m), .bool (Tak.knF c e m.m), .int .i64 (Tak.knE c e m.m)]) ∧ Below w.heap.size w w' := by
  obtain ⟨sa, so, hvs, _, _⟩ := hi.s.shape
  obtain ⟨ca, co, hvc, _, _⟩ := hi.c.1.shape
  obtain ⟨w1, hw1, sz1, bel1, hA⟩ := newm' w m hvs hvc
  have CK := hide (pckm_any e m c w1 (hi.below bel1) hf hc)
  rw [mv_eq hvs hvc] at CK ⊢
  have HE : Hid (∀ W, Below w1.heap.size w1 W → Ei W w.heap.size (.int .i64 m.k) (.int .i64 m.e) (.int .u8 m.r) (.int .i64 m.n) (.slice sa m.ss.length so) (.int .i64 m.f) (.int .i64 m.p) (.slice ca m.cs.length co)) := hide fun W hb => (hA.below hb).ei' hvs hvc
  obtain ⟨p0, p1, p2, p3, p4, p5, p6, p7⟩ := HE.out w1 (Below.refl _ _)
  have B1 := hide bel1
  have eF : Tak.knF c e m.m = (decide (Tak.knE c e m.m = 0) && (decide (m.k = 3) || (decide (m.k = 1) && decide (m.r = 2)))) := rfl
  have eV : Tak.knV c e k m.m = if Tak.knE c e m.m = 0 then (if (decide (m.k = 3) || (decide (m.k = 1) && decide (m.r = 2))) = true then max k m.n else max k 0) else 0 := rfl
  obtain ⟨z, hz⟩ : ∃ z, Tak.knE c e m.m = z := ⟨_, rfl⟩
  rw [hz] at eF eV CK
  rw [hz, eF, eV]
  clear hi hf hc hA hvs hvc bel1 eF eV hz
  by_cases h0 : z = 0
  case neg =>
    rw [decide_eq_false h0, Bool.false_and, if_neg h0]
    have hb : (z != 0) = true := by simpa using h0
    clear HE h0
    go_enter Try.func10, Try.ntmps10
    go_wp2_with fail
    refine CK.out.mono ?_
    rintro E w2 ⟨rfl, b2⟩
    have B2 := hide (B1.out.trans (b2.mono B1.out.size))
    clear CK b2
    go_wp2
    go_ret3
    exact ⟨rfl, B2.out⟩
  subst h0
  rw [if_pos rfl, show decide ((0 : Int) = 0) = true from rfl, Bool.true_and]
  by_cases h3 : m.k = 3
  · have hb3 : (m.k == 3) = true := by simpa using h3
    rw [decide_eq_true h3, Bool.true_or, if_pos rfl]
    clear h3
    by_cases hm : k < m.n
    · rw [show max k m.n = m.n by omega]
      go_enter Try.func10, Try.ntmps10
      go_wp2_with fail
      refine CK.out.mono ?_
      rintro E w2 ⟨rfl, b2⟩
      have B2 := hide (B1.out.trans (b2.mono B1.out.size))
      obtain ⟨q0, q1, q2, q3, q4, q5, q6, q7⟩ := HE.out w2 b2
      clear CK b2 HE
      go_wp2
      go_ret3
      exact ⟨rfl, B2.out⟩
    by_cases hm2 : m.n < k
    · rw [show max k m.n = k by omega]
      go_enter Try.func10, Try.ntmps10
      go_wp2_with fail
      refine CK.out.mono ?_
      rintro E w2 ⟨rfl, b2⟩
      have B2 := hide (B1.out.trans (b2.mono B1.out.size))
      obtain ⟨q0, q1, q2, q3, q4, q5, q6, q7⟩ := HE.out w2 b2
      clear CK b2 HE
      go_wp2
      go_ret3
      exact ⟨rfl, B2.out⟩
    obtain rfl : k = m.n := by omega
    rw [show max m.n m.n = m.n by omega]
    go_enter Try.func10, Try.ntmps10
    go_wp2_with fail
    refine CK.out.mono ?_
    rintro E w2 ⟨rfl, b2⟩
    have B2 := hide (B1.out.trans (b2.mono B1.out.size))
    obtain ⟨q0, q1, q2, q3, q4, q5, q6, q7⟩ := HE.out w2 b2
    clear CK b2 HE
    go_wp2
    go_ret3
    exact ⟨rfl, B2.out⟩
  have hb3 : (m.k == 3) = false := by simpa using h3
  rw [decide_eq_false h3, Bool.false_or]
  clear h3
  by_cases h4 : m.k = 1
  · have hb4 : (m.k == 1) = true := by simpa using h4
    rw [decide_eq_true h4, Bool.true_and]
    clear h4
    by_cases h5 : m.r = 2
    · have hb5 : (m.r == 2) = true := by simpa using h5
      rw [decide_eq_true h5, if_pos rfl]
      clear h5
      by_cases hm : k < m.n
      · rw [show max k m.n = m.n by omega]
        go_enter Try.func10, Try.ntmps10
        go_wp2_with fail
        refine CK.out.mono ?_
        rintro E w2 ⟨rfl, b2⟩
        have B2 := hide (B1.out.trans (b2.mono B1.out.size))
        obtain ⟨q0, q1, q2, q3, q4, q5, q6, q7⟩ := HE.out w2 b2
        clear CK b2 HE
        go_wp2
        go_ret3
        exact ⟨rfl, B2.out⟩
      by_cases hm2 : m.n < k
      · rw [show max k m.n = k by omega]
        go_enter Try.func10, Try.ntmps10
        go_wp2_with fail
        refine CK.out.mono ?_
        rintro E w2 ⟨rfl, b2⟩
        have B2 := hide (B1.out.trans (b2.mono B1.out.size))
        obtain ⟨q0, q1, q2, q3, q4, q5, q6, q7⟩ := HE.out w2 b2
        clear CK b2 HE
        go_wp2
        go_ret3
        exact ⟨rfl, B2.out⟩
      obtain rfl : k = m.n := by omega
      rw [show max m.n m.n = m.n by omega]
      go_enter Try.func10, Try.ntmps10
      go_wp2_with fail
      refine CK.out.mono ?_
      rintro E w2 ⟨rfl, b2⟩
      have B2 := hide (B1.out.trans (b2.mono B1.out.size))
      obtain ⟨q0, q1, q2, q3, q4, q5, q6, q7⟩ := HE.out w2 b2
      clear CK b2 HE
      go_wp2
      go_ret3
      exact ⟨rfl, B2.out⟩
    · have hb5 : (m.r == 2) = false := by simpa using h5
      rw [decide_eq_false h5, if_neg (by decide)]
      clear h5
      by_cases hm : k < 0
      · rw [show max k 0 = 0 by omega]
        go_enter Try.func10, Try.ntmps10
        go_wp2_with fail
        refine CK.out.mono ?_
        rintro E w2 ⟨rfl, b2⟩
        have B2 := hide (B1.out.trans (b2.mono B1.out.size))
        obtain ⟨q0, q1, q2, q3, q4, q5, q6, q7⟩ := HE.out w2 b2
        clear CK b2 HE
        go_wp2
        go_ret3
        exact ⟨rfl, B2.out⟩
      by_cases hm2 : 0 < k
      · rw [show max k 0 = k by omega]
        go_enter Try.func10, Try.ntmps10
        go_wp2_with fail
        refine CK.out.mono ?_
        rintro E w2 ⟨rfl, b2⟩
        have B2 := hide (B1.out.trans (b2.mono B1.out.size))
        obtain ⟨q0, q1, q2, q3, q4, q5, q6, q7⟩ := HE.out w2 b2
        clear CK b2 HE
        go_wp2
        go_ret3
        exact ⟨rfl, B2.out⟩
      obtain rfl : k = 0 := by omega
      rw [show max (0 : Int) 0 = 0 by omega]
      go_enter Try.func10, Try.ntmps10
      go_wp2_with fail
      refine CK.out.mono ?_
      rintro E w2 ⟨rfl, b2⟩
      have B2 := hide (B1.out.trans (b2.mono B1.out.size))
      obtain ⟨q0, q1, q2, q3, q4, q5, q6, q7⟩ := HE.out w2 b2
      clear CK b2 HE
      go_wp2
      go_ret3
      exact ⟨rfl, B2.out⟩
  · have hb4 : (m.k == 1) = false := by simpa using h4
    rw [decide_eq_false h4, Bool.false_and, if_neg (by decide)]
    clear h4
    by_cases hm : k < 0
    · rw [show max k 0 = 0 by omega]
      go_enter Try.func10, Try.ntmps10
      go_wp2_with fail
      refine CK.out.mono ?_
      rintro E w2 ⟨rfl, b2⟩
      have B2 := hide (B1.out.trans (b2.mono B1.out.size))
      obtain ⟨q0, q1, q2, q3, q4, q5, q6, q7⟩ := HE.out w2 b2
      clear CK b2 HE
      go_wp2
      go_ret3
      exact ⟨rfl, B2.out⟩
    by_cases hm2 : 0 < k
    · rw [show max k 0 = k by omega]
      go_enter Try.func10, Try.ntmps10
      go_wp2_with fail
      refine CK.out.mono ?_
      rintro E w2 ⟨rfl, b2⟩
      have B2 := hide (B1.out.trans (b2.mono B1.out.size))
      obtain ⟨q0, q1, q2, q3, q4, q5, q6, q7⟩ := HE.out w2 b2
      clear CK b2 HE
      go_wp2
      go_ret3
      exact ⟨rfl, B2.out⟩
    obtain rfl : k = 0 := by omega
    rw [show max (0 : Int) 0 = 0 by omega]
    go_enter Try.func10, Try.ntmps10
    go_wp2_with fail
    refine CK.out.mono ?_
    rintro E w2 ⟨rfl, b2⟩
    have B2 := hide (B1.out.trans (b2.mono B1.out.size))
    obtain ⟨q0, q1, q2, q3, q4, q5, q6, q7⟩ := HE.out w2 b2
    clear CK b2 HE
    go_wp2
    go_ret3
    exact ⟨rfl, B2.out⟩

/-- What is new of a ship: its commits behind those that the log has. -/
theorem nw_drop (l : List Cm.Cv) : ∀ (cs : List Cm.Cv) (F : Nat), F ≤ l.length + 1 → (∀ (i : Nat) (c : Cm.Cv), cs[i]? = some c → c.n = (F : Int) + i) → Tak.nw l cs = cs.drop (min (l.length + 1 - F) cs.length)
  | [], F, _, _ => by simp [Tak.nw]
  | c :: cs, F, hF, h => by
    have h0 := h 0 c rfl
    by_cases hlt : l.length < F
    · have : Tak.nw l (c :: cs) = c :: cs := by
        unfold Tak.nw
        rw [List.filter_eq_self]
        intro d hd
        obtain ⟨i, hi⟩ := List.getElem?_of_mem hd
        have := h i d hi
        rw [decide_eq_true_iff]; omega
      rw [this, show min (l.length + 1 - F) (c :: cs).length = 0 by omega]; rfl
    · have ih := nw_drop l cs (F + 1) (by omega) fun i d hd => by have := h (i + 1) d (by simpa using hd); rw [this]; push_cast; omega
      have hc : Tak.nw l (c :: cs) = Tak.nw l cs := by
        unfold Tak.nw
        rw [List.filter_cons_of_neg (by rw [decide_eq_true_iff]; omega)]
      rw [hc, ih, show min (l.length + 1 - F) (c :: cs).length = min (l.length + 1 - (F + 1)) cs.length + 1 by rw [List.length_cons]; omega]; rfl

set_option maxRecDepth 20000 in
set_option maxHeartbeats 16000000 in
theorem ptake_any (e : Int) (v : Value) (rs : List Cw) (m : Mw) (c : Int) (w : World) (h : IsC w v rs) (hfc : FitC rs) (hl : rs.length ≤ 1000000) (hi : IsM w m) (hf : FitM m) (hc : Mm.Ck m.m c) (he : In64 e) :
    Calls Try.prog 8 #[.int .i64 e, v, mv m] w (TkR w (Tak.tkE c e (cvs rs) m.m) (Tak.tk c e (cvs rs) m.m)) := by
  obtain ⟨ao, cap, hvl, _, _⟩ := h.1.shape
  obtain ⟨sa, so, hvs, _, _⟩ := hi.s.shape
  obtain ⟨ca, co, hvc, _, _⟩ := hi.c.1.shape
  obtain ⟨w1, hw1, sz1, bel1, hA⟩ := newm' w m hvs hvc
  have FOL := hide (cfol_any 0 0 v rs w1 (h.below bel1) hfc (by omega))
  unfold flv at FOL
  have HCK : Hid (∀ W, Below w1.heap.size w1 W → Calls Try.prog 26 #[.int .i64 e, .agg #[.int .i64 m.k, .int .i64 m.e, .int .u8 m.r, .int .i64 m.n, .slice sa m.ss.length so, .int .i64 m.f, .int .i64 m.p, .slice ca m.cs.length co]] W fun E w' => E = .returned (.int .i64 (Tak.knE c e m.m)) ∧ Below W.heap.size W w') := hide fun W hW => by
    have := pckm_any e m c W ((hi.below bel1).below hW) hf hc
    rw [mv_eq hvs hvc] at this
    exact this
  have HE : Hid (∀ W, Below w1.heap.size w1 W → Ei W w.heap.size (.int .i64 m.k) (.int .i64 m.e) (.int .u8 m.r) (.int .i64 m.n) (.slice sa m.ss.length so) (.int .i64 m.f) (.int .i64 m.p) (.slice ca m.cs.length co)) := hide fun W hb => (hA.below hb).ei' hvs hvc
  have HOK : Hid (c = 0 → Mm.Ok m.m) := hide fun h0 => by
    rcases hc with ⟨_, k⟩ | ⟨k, _⟩
    · exact k
    · omega
  have HFT : Hid (∀ W, Below w1.heap.size w1 W → c = 0 → m.k = 2 → m.f ≤ (rs.length : Int) + 1 → Calls Try.prog 27 #[v, .agg #[.int .i64 m.k, .int .i64 m.e, .int .u8 m.r, .int .i64 m.n, .slice sa m.ss.length so, .int .i64 m.f, .int .i64 m.p, .slice ca m.cs.length co]] W fun E w' => E = .returned (.bool (Tak.fits (cvs rs) m.m)) ∧ Below W.heap.size W w') := hide fun W hW h0 h2 h3 => by
    have := pfits_any v rs m W ((h.below bel1).below hW) hl ((hi.below bel1).below hW) (HOK.out h0) h2 h3
    rw [mv_eq hvs hvc] at this
    exact this
  obtain ⟨z, hz⟩ : ∃ z, Tak.tkE c e (cvs rs) m.m = z := ⟨_, rfl⟩
  obtain ⟨tl, htl⟩ : ∃ tl, Tak.tk c e (cvs rs) m.m = tl := ⟨_, rfl⟩
  have SHP : Hid (c = 0 → m.k = 2 → m.f ≤ (rs.length : Int) + 1 → ∃ (K : Nat) (a2 : Option Addr) (q2 : Nat) (n2 : Nat), n2 ≤ 4 ∧ (∀ W, Below w1.heap.size w1 W → Calls Try.prog 28 #[v, .agg #[.int .i64 m.k, .int .i64 m.e, .int .u8 m.r, .int .i64 m.n, .slice sa m.ss.length so, .int .i64 m.f, .int .i64 m.p, .slice ca m.cs.length co]] W fun E w' => E = .returned (.int .i64 (K : Int)) ∧ Below W.heap.size W w') ∧ (∀ wx, (Instr.slice 22 (.slice ca m.cs.length co) (some (.int .i64 K)) none none).run Try.prog wx = .ok (.slice a2 n2 q2) wx) ∧ RowC w (.slice a2 n2 q2) (m.cs.drop K) ∧ (m.cs.drop K).length = n2 ∧ Tak.nw (cvs rs) (cvs m.cs) = cvs (m.cs.drop K) ∧ ∀ c ∈ m.cs.drop K, IsO w c.v c.l ∧ CFit c.e c.n c.l) := hide fun h0 h2 h3 => by
    obtain ⟨hf1, hf2, hc4, hnum⟩ := ship_at (HOK.out h0) h2
    obtain ⟨F, hF⟩ : ∃ F : Nat, m.f = (F : Int) := ⟨m.f.toNat, by omega⟩
    obtain ⟨K, hK⟩ : ∃ K : Nat, min (rs.length + 1 - F) m.cs.length = K := ⟨_, rfl⟩
    obtain ⟨vs, hsl, rowS⟩ := hi.c.1.slice_lf Try.elemC Try.sizeC K (by omega)
    obtain ⟨a2, q2, hv2, _, _⟩ := rowS.shape
    have hn2 : (m.cs.drop K).length ≤ 4 := by rw [List.length_drop]; omega
    rw [hvc] at hsl
    rw [hv2] at hsl rowS
    refine ⟨K, a2, q2, _, hn2, fun W hW => ?_, hsl, rowS, rfl, ?_, fun d hd => ?_⟩
    · have := phad_any v rs m F W ((h.1.below bel1).below hW) hl ((hi.below bel1).below hW) hF (by omega) (by omega) hc4
      rw [mv_eq hvs hvc, hK] at this
      exact this
    · have := nw_drop (cvs rs) (cvs m.cs) F (by rw [cvs_n]; omega) fun i d hd => by
        obtain ⟨x, hx, rfl⟩ : ∃ x, m.cs[i]? = some x ∧ x.c = d := by
          unfold cvs at hd
          rw [List.getElem?_map] at hd
          cases hx : m.cs[i]? with
          | none => rw [hx] at hd; simp at hd
          | some x => rw [hx] at hd; exact ⟨x, rfl, by simpa using hd⟩
        rw [show x.c.n = x.n from rfl, hnum i x hx, hF]
      rw [this, cvs_n, cvs_n, hK]
      unfold cvs
      rw [List.map_drop]
    · have hm := List.mem_of_mem_drop hd
      obtain ⟨i, hi'⟩ := List.getElem?_of_mem hm
      refine ⟨(hi.c.2 d hm).1, ?_⟩
      have hgd : Cm.chk d.e d.n d.l = 0 := by
        rcases (HOK.out h0).2.2 with ⟨k, g⟩ | ⟨k, g⟩ | ⟨k, g⟩
        · rw [show m.m.k = m.k from rfl, h2] at k; simp at k
        · exact (Cm.good_at _ _ _ i d.c g.2.2.2.2.2.2.2.1 (cvs_at1 hi')).1
        · rw [show m.m.k = m.k from rfl, h2] at k; simp at k
      exact cfit_ok hgd
  have HNO : Hid (z ≠ 0 → tl = []) := hide fun h => by rw [← htl]; exact Tak.tk_no (by rw [hz]; exact h)
  have HYES : Hid (z = 0 → tl = Tak.nw (cvs rs) (cvs m.cs)) := hide fun h => by rw [← htl]; exact Tak.tk_is (by rw [hz]; exact h)
  have Z1 := hide (fun k => Tak.tkE_fol (c := c) (e := e) (l := cvs rs) (m := m.m) k)
  have Z2 := hide (fun k q => Tak.tkE_arg (c := c) (e := e) (l := cvs rs) (m := m.m) k q)
  have Z3 := hide (fun k q r => Tak.tkE_old (c := c) (e := e) (l := cvs rs) (m := m.m) k q r)
  have Z4 := hide (fun k q r s => Tak.tkE_new (c := c) (e := e) (l := cvs rs) (m := m.m) k q r s)
  have Z5 := hide (fun k q r s t => Tak.tkE_gap (c := c) (e := e) (l := cvs rs) (m := m.m) k q r s t)
  have Z6 := hide (fun k q r s t u => Tak.tkE_fork (c := c) (e := e) (l := cvs rs) (m := m.m) k q r s t u)
  have Z7 := hide (fun k q r s t u => Tak.tkE_ok (c := c) (e := e) (l := cvs rs) (m := m.m) k q r s t u)
  rw [cvs_n] at Z5 Z6 Z7
  rw [hz] at Z1 Z2 Z3 Z4 Z5 Z6 Z7
  obtain ⟨fl, hfl⟩ : ∃ f, Cm.fol 0 0 0 (cvs rs) = f := ⟨_, rfl⟩
  rw [hfl] at FOL Z1 Z2 Z3 Z4 Z5 Z6 Z7
  obtain ⟨fe, fp⟩ := fl
  simp only at FOL Z1 Z2 Z3 Z4 Z5 Z6 Z7
  obtain ⟨ck, hck⟩ : ∃ ck, Tak.knE c e m.m = ck := ⟨_, rfl⟩
  rw [hck] at HCK
  have CKN : Hid (fe = 0 → m.k = 2 → ck ≠ 0 → z = ck) := hide fun k0 k2 kn => by
    have hE : Tak.knE c e m.m = if c = 0 then (if m.e < e then 12 else if e < m.e then 2 else 0) else 2 := rfl
    rw [hck] at hE
    by_cases h0 : c = 0
    · rw [if_pos h0] at hE
      by_cases h3 : m.e < e
      · rw [if_pos h3] at hE
        rw [hE]; exact Z3.out k0 ⟨h0, k2⟩ h3
      · rw [if_neg h3] at hE
        by_cases h4 : e < m.e
        · rw [if_pos h4] at hE
          rw [hE]; exact Z4.out k0 ⟨h0, k2⟩ h3 h4
        · rw [if_neg h4] at hE; exact absurd hE kn
    · rw [if_neg h0] at hE
      rw [hE]; exact Z2.out k0 fun k => h0 k.1
  have CKY : Hid (ck = 0 → c = 0 ∧ ¬ m.e < e ∧ ¬ e < m.e) := hide fun k0 => by
    have hE : Tak.knE c e m.m = if c = 0 then (if m.e < e then 12 else if e < m.e then 2 else 0) else 2 := rfl
    rw [hck, k0] at hE
    by_cases h0 : c = 0
    · rw [if_pos h0] at hE
      by_cases h3 : m.e < e
      · rw [if_pos h3] at hE; simp at hE
      · rw [if_neg h3] at hE
        by_cases h4 : e < m.e
        · rw [if_pos h4] at hE; simp at hE
        · exact ⟨h0, h3, h4⟩
    · rw [if_neg h0] at hE; simp at hE
  rw [hz, htl, mv_eq hvs hvc]
  rw [hvl] at FOL HFT SHP
  have B1 := hide bel1
  subst hvl
  clear h hi hf hc hA hvs hvc bel1 hz htl hfl hfc hck Z3 Z4
  go_enter Try.func8, Try.ntmps8
  go_wp2_with fail
  refine FOL.out.mono ?_
  rintro E w2 ⟨rfl, b2⟩
  obtain ⟨w3, hw3, hw3', sz3, b3, hF, c0, c1⟩ := new_two w2 46 (.int .i64 0) (.int .i64 0) (.int .i64 fe) (.int .i64 fp)
  have D3 := hide (b2.trans (b3.mono b2.size))
  have BW3 := hide (B1.out.trans (D3.out.mono B1.out.size))
  clear FOL b2 b3 hF hw3
  by_cases hfe : fe = 0
  case neg =>
    have hb : (fe != 0) = true := by simpa using hfe
    have HZE := hide (Z1.out hfe)
    have HNE := hide (HNO.out (by rw [Z1.out hfe]; exact hfe))
    clear Z1 Z2 Z5 Z6 Z7 HCK HE HFT HNO HYES CKN CKY SHP HOK hfe
    go_wp2
    go_quiet (fail)
    go_wp2
    go_ret2
    exact tkr_no HZE.out HNE.out (below_drewN BW3.out _)
  have hb : (fe != 0) = false := by simp [hfe]
  have HFE := hide hfe
  obtain ⟨p0, p1, p2, p3, p4, p5, p6, p7⟩ := HE.out w3 D3.out
  have CK := hide (HCK.out w3 D3.out)
  clear Z1 HCK hfe
  by_cases h2 : m.k = 2
  case neg =>
    have hb2 : (m.k != 2) = true := by simpa using h2
    have HZE := hide (Z2.out HFE.out (fun k => h2 k.2))
    have HNE := hide (HNO.out (by rw [Z2.out HFE.out (fun k => h2 k.2)]; decide))
    clear Z2 Z5 Z6 Z7 HFT HNO HYES HE CKN CKY SHP HOK CK
    go_wp2
    go_ret2
    exact tkr_no HZE.out HNE.out BW3.out
  have hb2 : (m.k != 2) = false := by simp [h2]
  have HK2 := hide h2
  clear h2 Z2
  go_wp2_with fail
  refine CK.out.mono ?_
  rintro E w4 ⟨rfl, b4⟩
  have D4 := hide (D3.out.trans (b4.mono D3.out.size))
  have BW4 := hide (B1.out.trans (D4.out.mono B1.out.size))
  obtain ⟨q0, q1, q2, q3, q4, q5, q6, q7⟩ := HE.out w4 D4.out
  clear CK b4 p0 p1 p2 p3 p4 p5 p6 p7 c0 c1 hw3' sz3 D3 BW3
  by_cases h0 : ck = 0
  case neg =>
    have hb : (ck != 0) = true := by simpa using h0
    have HZE := hide (CKN.out HFE.out HK2.out h0)
    have HNE := hide (HNO.out (by rw [CKN.out HFE.out HK2.out h0]; exact h0))
    clear Z5 Z6 Z7 HFT HNO HYES HE CKN CKY SHP HOK h0
    go_wp2
    go_ret2
    exact tkr_no HZE.out HNE.out BW4.out
  have hb : (ck != 0) = false := by simp [h0]
  have HC3 := hide (CKY.out h0)
  have HOO := hide (And.intro HC3.out.1 HK2.out)
  clear h0 CKN CKY
  have hwl : IntKind.i64.wrap ((rs.length : Int) + 1) = (rs.length : Int) + 1 := wrap64s _ (by omega) (by omega)
  by_cases h5 : (rs.length : Int) + 1 < m.f
  case pos =>
    have HZE := hide (Z5.out HFE.out HOO.out HC3.out.2.1 HC3.out.2.2 h5)
    have HNE := hide (HNO.out (by rw [Z5.out HFE.out HOO.out HC3.out.2.1 HC3.out.2.2 h5]; decide))
    clear Z5 Z6 Z7 HFT HNO HYES HE SHP HOK
    go_wp2
    go_ret2
    exact tkr_no HZE.out HNE.out BW4.out
  have FT := hide (HFT.out w4 D4.out HOO.out.1 HOO.out.2 (by omega))
  have ZF := hide (Z6.out HFE.out HOO.out HC3.out.2.1 HC3.out.2.2 (show m.f ≤ (rs.length : Int) + 1 by omega))
  have ZY := hide (Z7.out HFE.out HOO.out HC3.out.2.1 HC3.out.2.2 (show m.f ≤ (rs.length : Int) + 1 by omega))
  obtain ⟨K, a2, k2, n2, hn4, hHAD, hsl, rowS, hn2, hnw, hin⟩ := SHP.out HOO.out.1 HOO.out.2 (by omega)
  have HAD := hide hHAD
  have HROW := hide (And.intro rowS (And.intro hn2 (And.intro hnw hin)))
  clear Z5 Z6 Z7 HFT SHP hHAD rowS hn2 hnw hin HC3
  generalize Tak.fits (cvs rs) m.m = ft at *
  go_wp2_with fail
  refine FT.out.mono ?_
  rintro E w5 ⟨rfl, b5⟩
  have D5 := hide (D4.out.trans (b5.mono D4.out.size))
  have BW5 := hide (B1.out.trans (D5.out.mono B1.out.size))
  clear FT b5 q0 q1 q2 q3 q4 q5 q6 q7 D4 BW4
  cases ft with
  | false =>
    have HZE := hide (ZF.out rfl)
    have HNE := hide (HNO.out (by rw [ZF.out rfl]; decide))
    clear ZF ZY HNO HYES HE HAD HROW
    go_wp2
    go_ret2
    exact tkr_no HZE.out HNE.out BW5.out
  | true =>
  have HZE := hide (ZY.out rfl)
  have HYE := hide (HYES.out (ZY.out rfl))
  obtain ⟨s0, s1, s2, s3, s4, s5, s6, s7⟩ := HE.out w5 D5.out
  clear ZF ZY HNO HYES h5 hb hb2 hwl
  go_wp2_with fail
  go_region_held3 (fun W => W.cell? ⟨w.heap.size, 0, none⟩ = some (.int .i64 m.k) ∧ W.cell? ⟨w.heap.size, 1, none⟩ = some (.int .i64 m.e) ∧ W.cell? ⟨w.heap.size, 2, none⟩ = some (.int .u8 m.r) ∧ W.cell? ⟨w.heap.size, 3, none⟩ = some (.int .i64 m.n) ∧ W.cell? ⟨w.heap.size, 4, none⟩ = some (.slice sa m.ss.length so) ∧ W.cell? ⟨w.heap.size, 5, none⟩ = some (.int .i64 m.f) ∧ W.cell? ⟨w.heap.size, 6, none⟩ = some (.int .i64 m.p) ∧ W.cell? ⟨w.heap.size, 7, none⟩ = some (.slice ca m.cs.length co)) (first | exact ⟨s0, s1, s2, s3, s4, s5, s6, s7⟩ | exact ⟨t0, t1, t2, t3, t4, t5, t6, t7⟩ | go_keep)
    (first
    | (go_at_call 28; refine (HAD.out _ D5.out.drew).mono ?_; rintro E w6 ⟨rfl, b6⟩; have D6 := hide (D5.out.drew.trans (b6.mono D5.out.drew.size)); obtain ⟨t0, t1, t2, t3, t4, t5, t6, t7⟩ := HE.out w6 D6.out; clear b6))
  have BW6 := hide (B1.out.trans (D6.out.mono B1.out.size))
  clear s0 s1 s2 s3 s4 s5 s6 s7 t0 t1 t2 t3 t4 t5 t6 t7 HE HAD D5 BW5
  go_wp2
  go_loopw [10, 46] (fun gv iv wr => ∃ (i : Nat) (cs : List Cw) (va : Option Addr) (vn vk : Nat), gv = .slice va vn vk ∧ iv = .int .i64 (i : Int) ∧ i ≤ n2 ∧ cs.length = i ∧ Hid (ShS w6.heap.size wr (.slice va vn vk) cs ∧ cvs cs = cvs ((m.cs.drop K).take i) ∧ Below w6.heap.size w6 wr)) (fun _ iv _ => n2 - (intOf iv).toNat)
  case atStart => exact ⟨0, [], none, 0, 0, rfl, rfl, by omega, by simp, hide ⟨ShS.nil _ _, rfl, Below.refl _ _⟩⟩
  case round =>
    obtain ⟨i, cs, va, vn, vk, rfl, rfl, hil, hcl, HS⟩ := hrel
    by_cases hlt : i < n2
    · obtain ⟨rowS, hn2, hnw, hin⟩ := HROW.out
      have bW := BW6.out.trans (HS.out.2.2.mono BW6.out.size)
      obtain ⟨b, off, cap', hv, _, _, hbb, hcell⟩ := rowS.full (by omega)
      obtain ⟨d, hd⟩ : ∃ d, (m.cs.drop K)[i]? = some d := ⟨(m.cs.drop K)[i]'(by omega), List.getElem?_eq_getElem (by omega)⟩
      obtain ⟨e0, e1, e2⟩ := hcell i d hd
      have d0 := (bW.cell (p := ⟨b, off + i * 3, none⟩) hbb).trans e0
      have d1 := (bW.cell (p := ⟨b, off + i * 3 + 1, none⟩) hbb).trans e1
      have d2 := (bW.cell (p := ⟨b, off + i * 3 + 2, none⟩) hbb).trans e2
      obtain ⟨hio, hfit⟩ := hin d (List.mem_of_getElem? hd)
      obtain ⟨da, dq, hdv, _, _⟩ := hio.shape
      rw [hn2] at hv
      simp only [Value.slice.injEq, true_and] at hv
      obtain ⟨rfl, rfl⟩ := hv
      have hlt' : (i : Int) < n2 := by omega
      have hi0 : (0 : Int) ≤ (i : Int) := by omega
      obtain ⟨V, hV, hV2, szV, belV, bC, u0, u1, u2⟩ := new_step wr 50 (.int .i64 0) (.int .i64 0) (.slice none 0 0) (.int .i64 d.e) (.int .i64 d.n) (.slice da d.l.length dq)
      have CP : Hid (Calls Try.prog 29 #[.agg #[.int .i64 d.e, .int .i64 d.n, d.v]] V fun E w10 => ∃ v', E = .returned (.agg #[.int .i64 d.e, .int .i64 d.n, v']) ∧ (∃ a n k, v' = .slice a n k) ∧ ∃ V3, w10.alloc (.cells #[.int .i64 d.e, .int .i64 d.n, v'] 50) = V3 ∧ Hid (∀ ty, ∃ v2 w2', (Builtin.append_ #[22, 22] ty #[.slice va vn vk, .slice (some ⟨w10.heap.size, 0, none⟩) 1 1]).run Try.prog V3 = .ok v2 w2' ∧ (∃ cs2, cs2.length = i + 1 ∧ Hid (ShS w6.heap.size w2' v2 cs2 ∧ cvs cs2 = cvs ((m.cs.drop K).take (i + 1)) ∧ Below w6.heap.size w6 w2')) ∧ ∃ a n k, v2 = .slice a n k)) := hide (by
        have bV := HS.out.2.2.trans (belV.mono HS.out.2.2.size)
        have shV := HS.out.1.below belV
        refine (ccopy_any d.e d.n d.v d.l V ((hio.below bW).below belV) (by have := hfit.2.2.2; omega)).mono ?_
        rintro E w10 ⟨v', rfl, own10, bel10⟩
        obtain ⟨a, q, hv', _, _⟩ := own10.is.shape
        obtain ⟨V3, hV3, bV3, szV3, hpu⟩ := shV.push bV.size bel10 ⟨d.e, d.n, v', d.l⟩ own10 hfit (by omega)
        refine ⟨v', rfl, ⟨a, _, q, hv'⟩, V3, hV3, hide fun ty => ?_⟩
        obtain ⟨v2, w2', r1, sh2, gr2, hsl'⟩ := hpu ty
        refine ⟨v2, w2', r1, ⟨_, by rw [List.length_append, List.length_singleton]; omega, hide ⟨sh2, cvs_snoc HS.out.2.1 hd rfl, ?_⟩⟩, hsl'⟩
        have bV' : Below w6.heap.size w6 V3 := bV.trans ((bel10.trans (bV3.mono bel10.size)).mono bV.size)
        exact bV'.grown gr2 bV'.size fun g hg => (World.ownsRow.lt HS.out.1.c g hg).1)
      rw [hdv] at d2 CP
      clear hio hfit hdv HS hd rowS hn2 hnw hin hcell e0 e1 e2 bW belV bC
      go_wp2_with fail
      refine CP.out.mono ?_
      rintro E w10 ⟨v10, rfl, ⟨a10, n10, k10, rfl⟩, V3, hV3, X⟩
      clear CP d0 d1 d2 u0 u1 u2
      go_wp2_with (at_builtin; refine wpList_append_at rfl (.tmp 50) (.tmp 53) 22 rfl (.slice va vn vk) (.slice (some ⟨w10.heap.size, 0, none⟩) 1 1) rfl rfl X.out ?_; rintro v11 w11 ⟨⟨cs2, hl2, H2⟩, a11, n11, k11, rfl⟩)
      go_wp2
      go_roundw
      case rel => exact ⟨i + 1, cs2, a11, n11, k11, rfl, by go_num, by omega, hl2, H2⟩
      case measure => simp [intOf]; omega
    · have hlt' : ¬ (i : Int) < n2 := by omega
      have FIN : Hid (ShS w.heap.size wr (.slice va vn vk) cs ∧ cvs cs = tl ∧ Below w.heap.size w wr) := hide (by
        obtain ⟨rowS, hn2, hnw, hin⟩ := HROW.out
        obtain ⟨h1, h2, h3⟩ := HS.out
        rw [List.take_of_length_le (by omega)] at h2
        have hsz := BW6.out.size
        exact ⟨⟨h1.c.rebase hsz, fun c hc => (h1.o c hc).rebase hsz, h1.i, h1.ap, h1.f⟩, by rw [h2, HYE.out, hnw], BW6.out.trans (h3.mono hsz)⟩)
      clear HS HROW
      go_wp2
      go_ret2
      exact ⟨_, cs, by rw [HZE.out]; rfl, FIN⟩

end Go.Proofs.Ytfnaeblbodfekaa
