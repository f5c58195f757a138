/- Texts of one layer, one behind the other. -/
import Derived.Test.YtfnaeblbodfekaaGS
import Derived.Test.YtfnaeblbodfekaaG1
import Derived.Test.YtfnaeblbodfekaaGT
import Derived.Test.YtfnaeblbodfekaaG6
import Derived.Test.YtfnaeblbodfekaaGU
import Derived.Deep.QuietTactic
import Derived.BigQuiet
/- TakeTwice: the walk. -/
namespace Go.Proofs.Ytfnaeblbodfekaa
open Go.RowKit
set_option linter.unusedVariables false

theorem got_of {b b' : Nat} {w : World} {v : Value} {cs : List Cw} {l : List Cm.Cv} (h : ShS b w v cs) (he : cvs cs = l) (hb : b' ≤ b) : Got b' w v cs l := ⟨h.c.rebase hb, fun c hc => (h.o c hc).rebase hb, h.i, h.f, he⟩

theorem good_fol18 {l : List Cm.Cv} (h : Cm.Good 0 0 l) : Cm.fol 0 0 0 l = (0, 0) := by
  have k1 := (Cm.fol_good l 0 0 0).2 h
  exact Prod.ext k1 (Cm.fol_at l 0 0 0 k1)

theorem copy_got {b : Nat} {w w0 : World} {v v0 : Value} {rs r : List Cw} (h : OwnR 50 b w v rs) (he : cvs rs = cvs r) (ho : CopyR b w rs) (hi : IsC w0 v0 r) (hf : FitC r) : Got b w v rs (cvs r) := ⟨h, ho, fun c hc => by
  obtain ⟨d, hd, e⟩ := List.mem_map.1 (show c.c ∈ cvs r by rw [← he]; exact List.mem_map_of_mem hc)
  have q := (hi.2 d hd).2
  have e1 : d.e = c.e := congrArg Cm.Cv.e e
  have e2 : d.n = c.n := congrArg Cm.Cv.n e
  rw [e1, e2] at q
  exact q, fit_same he hf, he⟩

set_option maxRecDepth 100000 in
set_option maxHeartbeats 16000000 in
theorem takeTwice_w (e : Int) (v : Value) (r : List Cw) (m : Mw) (w : World) (he : In64 e) (h : IsC w v r) (hf : FitC r) (hl : r.length ≤ 140737488355328) (hm : IsM w m) (fm : FitM m) :
    Calls Try.prog 5 #[.int .i64 e, v, mv m] w fun E w' => E = .returned (.bool true) ∧ Below w.heap.size w w' := by
  obtain ⟨ao, cap, hvl, _, _⟩ := h.1.shape
  obtain ⟨sa, so, hvs, _, _⟩ := hm.s.shape
  obtain ⟨ca, co, hvc, _, _⟩ := hm.c.1.shape
  have HMV : Hid (mv m = .agg #[.int .i64 m.k, .int .i64 m.e, .int .u8 m.r, .int .i64 m.n, .slice sa m.ss.length so, .int .i64 m.f, .int .i64 m.p, .slice ca m.cs.length co]) := hide (mv_eq hvs hvc)
  obtain ⟨wa, hwa, sza, bela, hA⟩ := newm' w m hvs hvc
  have HEI : Hid (∀ W, Below wa.heap.size wa W → Ei W w.heap.size (.int .i64 m.k) (.int .i64 m.e) (.int .u8 m.r) (.int .i64 m.n) (.slice sa m.ss.length so) (.int .i64 m.f) (.int .i64 m.p) (.slice ca m.cs.length co)) := hide fun W hb => (hA.below hb).ei' hvs hvc
  rw [HMV.out]
  have HI := hide h
  have HF := hide hf
  have HM := hide hm
  have FM := hide fm
  have HEK := hide he
  have BA := hide bela
  rw [hvl] at HI
  subst hvl
  have HMC : Hid (∀ W, Below w.heap.size w W → IsC W (.slice ca m.cs.length co) m.cs) := hide fun W hb => hvc ▸ hm.c.below hb
  clear h hf hm fm he hA bela hvs hvc
  go_enter Try.func5, Try.ntmps5
  go_wp2_with fail
  refine (lives18_any _).mono ?_
  rintro E w1 ⟨rfl, b1⟩
  have BA1 := hide b1
  have B1 := hide (BA.out.trans (b1.mono BA.out.size))
  have SML := hide (small18_any _ r w1 (HI.out.below B1.out) hl)
  clear b1 hwa
  go_wp2_with fail
  refine SML.out.mono ?_
  rintro E w2 ⟨⟨bs, rfl, hbs⟩, rfl⟩
  clear SML
  obtain ⟨d0, d1, d2, d3, d4, d5, d6, d7⟩ := HEI.out _ BA1.out
  cases bs with
  | false =>
    go_wp2
    go_ret
    exact ⟨rfl, B1.out⟩
  | true =>
  have HS1 := hide (hbs rfl)
  have SML := hide (small18_any _ m.cs w1 (HMC.out _ B1.out) FM.out.lc)
  clear hbs
  go_wp2_with fail
  refine SML.out.mono ?_
  rintro E w2 ⟨⟨bs, rfl, hbs⟩, rfl⟩
  clear SML
  cases bs with
  | false =>
    go_wp2
    go_ret
    exact ⟨rfl, B1.out⟩
  | true =>
  have HS2 := hide (hbs rfl)
  clear hbs
  by_cases h40 : 40 < m.ss.length
  · have h40' : (40 : Int) < m.ss.length := by omega
    go_wp2
    go_ret
    exact ⟨rfl, B1.out⟩
  have h40' : ¬ (40 : Int) < m.ss.length := by omega
  obtain ⟨ck, hck⟩ : ∃ c, Mm.Ck m.m c := by
    by_cases hok : Mm.Ok m.m
    · exact ⟨0, .inl ⟨rfl, hok⟩⟩
    · exact ⟨2, .inr ⟨rfl, hok⟩⟩
  have HCK := hide hck
  have TK : Hid (Calls Try.prog 8 #[.int .i64 e, .slice ao r.length cap, .agg #[.int .i64 m.k, .int .i64 m.e, .int .u8 m.r, .int .i64 m.n, .slice sa m.ss.length so, .int .i64 m.f, .int .i64 m.p, .slice ca m.cs.length co]] w1 (TkR w1 (Tak.tkE ck e (cvs r) m.m) (Tak.tk ck e (cvs r) m.m))) := hide (by
    have q := ptake_any e _ r m ck w1 (HI.out.below B1.out) HF.out (by have := HS1.out.1; omega) (HM.out.below B1.out) FM.out HCK.out HEK.out
    rw [HMV.out] at q
    exact q)
  obtain ⟨z1, hz1⟩ : ∃ z, Tak.tkE ck e (cvs r) m.m = z := ⟨_, rfl⟩
  obtain ⟨t1, ht1⟩ : ∃ z, Tak.tk ck e (cvs r) m.m = z := ⟨_, rfl⟩
  rw [hz1, ht1] at TK
  have HZ1 := hide hz1
  have HT1 := hide ht1
  clear hck hz1 ht1 h40
  go_wp2_with fail
  refine TK.out.mono ?_
  intro E w3 hE
  obtain ⟨a1, j1, cs1, rfl, T1⟩ := hE.open
  have T1 := hide T1
  have B3 := hide (B1.out.trans (T1.out.bel.mono B1.out.size))
  clear hE TK d0 d1 d2 d3 d4 d5 d6 d7
  by_cases hz0 : z1 = 0
  case neg =>
    have ht0 : t1.length = 0 := by rw [← HT1.out, Tak.tk_no (by rw [HZ1.out]; exact hz0)]; rfl
    go_wp2
    go_ret
    exact ⟨rfl, B3.out⟩
  subst hz0
  have hc0 : ck = 0 := (Tak.tkE_zero HZ1.out).2.1
  subst hc0
  have HOK : Hid (Mm.Ok m.m) := hide (by
    rcases HCK.out with ⟨_, q⟩ | ⟨q, _⟩
    · exact q
    · exact absurd q (by decide))
  have AG := hide (Tak.aft_good HOK.out HZ1.out)
  have AL := hide (Tak.aft_len HOK.out HZ1.out)
  have HAF : Hid (cvs r ++ t1 = Tak.aft (cvs r) m.m) := hide (by rw [← HT1.out, Tak.tk_is HZ1.out]; rfl)
  have CP := hide (copyCs_any _ r w3 (HI.out.below B3.out) HF.out (by have := HS1.out.1; omega))
  go_wp2_with fail
  refine CP.out.mono ?_
  rintro E w4 ⟨vp, ru, rfl, own4, ecv, cr4, b4⟩
  have B4 := hide (B3.out.trans (b4.mono B3.out.size))
  have BA4 : Hid (Below wa.heap.size wa w4) := hide ((BA1.out.trans (T1.out.bel.mono BA1.out.size)).trans (b4.mono (BA1.out.trans (T1.out.bel.mono BA1.out.size)).size))
  have G4 : Got w1.heap.size w4 vp ru (cvs r) := copy_got (own4.rebase T1.out.bel.size) ecv (fun c hc => (cr4 c hc).rebase T1.out.bel.size) HI.out HF.out
  have G1 : Got w1.heap.size w4 (.slice a1 t1.length j1) cs1 t1 := got_of (T1.out.sh.below b4) T1.out.is (Nat.le_refl _)
  have hru : ru.length = r.length := by rw [← cvs_n, ecv, cvs_n]
  have hc1 : cs1.length ≤ 4 := by rw [← cvs_n, T1.out.is, ← HT1.out, Tak.tk_is HZ1.out]; exact AL.out.2
  have hwz : w1.heap.size ≤ w4.heap.size := Nat.le_trans T1.out.bel.size b4.size
  have APP := hide (G4.more hwz G1 (by have := HS1.out.1; omega))
  obtain ⟨va, vk, hvp, _, _⟩ := own4.row.shape
  have BG : Hid (∀ W, w4.grownBy W vp.ownBlock → Below w1.heap.size w4 W) := hide fun W hW => (Below.refl _ _).grown hW hwz fun g hg => (World.ownsRow.lt G4.c g hg).1
  rw [hru] at hvp
  rw [hvp] at APP BG
  subst hvp
  rw [HAF.out] at APP
  clear CP T1 own4 ecv cr4 b4 G4 G1 hru
  go_wp2_with (at_builtin; refine wpList_append_at rfl (.tmp 43) (.tmp 44) 22 rfl (.slice va r.length vk) (.slice a1 t1.length j1) rfl rfl APP.out ?_; rintro v8 w5 ⟨⟨r8, G8, gr8⟩, a8, n8, k8, rfl⟩)
  have b5 := BG.out w5 gr8
  have hn8 : n8 = (Tak.aft (cvs r) m.m).length := by
    obtain ⟨_, _, q, _⟩ := G8.out.c.row.shape
    simp only [Value.slice.injEq] at q
    rw [q.2.1, ← cvs_n, G8.out.is]
  have A44 : Hid ((Tak.aft (cvs r) m.m).length ≤ 44) := hide (by
    have q1 := AL.out.2
    have q2 := HS1.out.1
    unfold Tak.aft
    rw [List.length_append, cvs_n]
    omega)
  have AT : Hid (∀ (i : Nat) (c : Cm.Cv), m.m.cs[i]? = some c → ∃ n : Nat, c.n = (n : Int) + 1 ∧ n < (Tak.aft (cvs r) m.m).length ∧ ∃ d, (Tak.aft (cvs r) m.m)[n]? = some d ∧ d.e = c.e ∧ (((cvs r).length : Int) < c.n → d = c)) := hide fun i c hc => Tak.aft_at HOK.out HZ1.out hc
  have TW := hide (Tak.aft_twice HOK.out HZ1.out)
  have MF : Hid (1 ≤ m.f ∧ m.f ≤ (r.length : Int) + 1) := hide (by
    obtain ⟨_, _, hk, _, hf, _⟩ := Tak.tkE_zero HZ1.out
    rw [cvs_n] at hf
    exact ⟨(Tak.ship_num HOK.out hk).1, hf⟩)
  have AL2 : Hid (((Tak.aft (cvs r) m.m).length : Int) = max (r.length : Int) (m.f - 1 + m.cs.length)) := hide (by
    have q := AL.out.1
    rw [cvs_n] at q
    rw [q]
    show max _ (m.f - 1 + ((cvs m.cs).length : Int)) = _
    rw [cvs_n])
  obtain ⟨af, haf⟩ : ∃ l, Tak.aft (cvs r) m.m = l := ⟨_, rfl⟩
  rw [haf] at G8 hn8 AG A44 AT TW AL2
  have HAG := hide haf
  subst hn8
  have EI5 : Hid (∀ W, Below w1.heap.size w5 W → Ei W w.heap.size (.int .i64 m.k) (.int .i64 m.e) (.int .u8 m.r) (.int .i64 m.n) (.slice sa m.ss.length so) (.int .i64 m.f) (.int .i64 m.p) (.slice ca m.cs.length co)) := hide fun W hW => by
    have q1 : Below wa.heap.size wa w5 := BA4.out.trans (b5.mono BA1.out.size)
    exact HEI.out W (q1.trans (hW.mono BA1.out.size))
  have B5 := hide (B4.out.trans (b5.mono B1.out.size))
  have HL5 : Hid (w1.heap.size ≤ w5.heap.size) := hide (Nat.le_trans hwz b5.size)
  have FO := hide (cfol_any 0 0 _ r8 w5 G8.out.isC G8.out.f (by have q := congrArg List.length G8.out.is; rw [cvs_n] at q; have := A44.out; omega))
  rw [G8.out.is, good_fol18 AG.out] at FO
  unfold flv at FO
  simp only at FO
  have hnq := Try.neqF 0 0 0 0
  have hgd := Try.guardF
  clear APP BG gr8 haf
  go_wp2_with fail
  refine FO.out.mono ?_
  rintro E w6 ⟨rfl, b6⟩
  have c5 := (EI5.out w6 (b6.mono HL5.out)).c5
  have hf1 : ¬ m.f < 1 := by have := MF.out; omega
  have hf2 : ¬ (r.length : Int) + 1 < m.f := by have := MF.out; omega
  have hw1 : IntKind.i64.wrap ((r.length : Int) + 1) = (r.length : Int) + 1 := wrap64s _ (by omega) (by have := HS1.out.1; omega)
  have B6 := hide b6
  clear FO b6 b5
  go_wp2
  go_loopw [10] (fun iv wr => ∃ i : Nat, iv = .int .i64 (i : Int) ∧ i ≤ m.cs.length ∧ Hid (Below w5.heap.size w5 wr)) (fun iv _ => m.cs.length - (intOf iv).toNat)
  case atStart => exact ⟨0, rfl, by omega, B6⟩
  case round =>
    obtain ⟨i, rfl, hi, BR⟩ := hrel
    have bW : Below w.heap.size w wr := B5.out.trans (BR.out.mono B5.out.size)
    have c7 := (EI5.out wr (BR.out.mono HL5.out)).c7
    by_cases hlt : i < m.cs.length
    · have hlt' : (i : Int) < m.cs.length := by omega
      have hi0 : (0 : Int) ≤ (i : Int) := by omega
      obtain ⟨mb, mo, mcap, hvm, _, _, hmb, hmcell⟩ := (HMC.out _ bW).1.full (by omega)
      simp only [Value.slice.injEq, true_and] at hvm
      obtain ⟨c, hc⟩ : ∃ c, m.cs[i]? = some c := ⟨m.cs[i], List.getElem?_eq_getElem hlt⟩
      obtain ⟨e0, e1, e2⟩ := hmcell i c hc
      obtain ⟨n, hcn, hnl, dd, hdd, hde, hdc⟩ := AT.out i c.c (by show (cvs m.cs)[i]? = _; unfold cvs; rw [List.getElem?_map, hc]; rfl)
      have hcn' : c.n = (n : Int) + 1 := hcn
      have GR := G8.out.below BR.out
      have h8l : r8.length = af.length := by rw [← cvs_n, GR.is]
      obtain ⟨ab, abo, acap, hva, _, _, hab, hacell⟩ := GR.c.row.full (by omega)
      rw [h8l] at hva
      simp only [Value.slice.injEq, true_and] at hva
      obtain ⟨x, hx⟩ : ∃ x, r8[n]? = some x := ⟨r8[n]'(by omega), List.getElem?_eq_getElem (by omega)⟩
      obtain ⟨x0, x1, x2⟩ := hacell n x hx
      have hxd : x.c = dd := by
        have q : (cvs r8)[n]? = some x.c := by unfold cvs; rw [List.getElem?_map, hx]; rfl
        rw [GR.is, hdd] at q
        exact (Option.some.inj q).symm
      have hxe : x.e = c.e := by rw [← hxd] at hde; exact hde
      rw [hxe] at x0
      have hix := GR.isC.2 x (List.mem_of_getElem? hx)
      have hic := (HMC.out _ bW).2 c (List.mem_of_getElem? hc)
      obtain ⟨xa, xk, hxv, _, _⟩ := hix.1.shape
      obtain ⟨ya, yk, hyv, _, _⟩ := hic.1.shape
      have hn1 : ¬ c.n < 1 := by omega
      have hn2 : ¬ (af.length : Int) < c.n := by omega
      have hn4 : (n : Int) < (af.length : Int) := by omega
      have hn5 : (0 : Int) ≤ (n : Int) := by omega
      have hwn : IntKind.i64.wrap (c.n - 1) = (n : Int) := by rw [hcn', show (n : Int) + 1 - 1 = (n : Int) by omega]; exact wrap64s _ (by omega) (by have := A44.out; omega)
      have hwi : IntKind.i64.wrap ((i : Int) + 1) = (i : Int) + 1 := wrap64s _ (by omega) (by have := HS2.out.1; omega)
      have hee : (c.e != c.e) = false := by simp
      have CS : Hid (∀ W, Below wr.heap.size wr W → (r.length : Int) < c.n → Calls Try.prog 23 #[.agg #[.int .i64 c.e, .int .i64 x.n, .slice xa x.l.length xk], .agg #[.int .i64 c.e, .int .i64 c.n, .slice ya c.l.length yk]] W fun E w' => E = .returned (.bool true) ∧ Below W.heap.size W w') := hide fun W hW hlr => by
        have hxc : x.c = c.c := by rw [hxd]; exact hdc (by rw [cvs_n]; exact hlr)
        have qn : x.n = c.n := congrArg Cm.Cv.n hxc
        have ql : x.l = c.l := congrArg Cm.Cv.l hxc
        have q := csame_any x.e x.n x.v x.l c.e c.n c.v c.l W (hix.1.below hW) (hic.1.below hW) (by have := (G8.out.f x (List.mem_of_getElem? hx)).2; omega) (by have := (FM.out.fc c (List.mem_of_getElem? hc)).2; omega)
        unfold cmv at q
        rw [hxe, qn, ql, sameC_self, hxv, hyv, ql] at q
        rw [qn, ql]
        exact q
      rw [hxv] at x2
      rw [hyv] at e2
      obtain ⟨rfl, rfl⟩ := hvm
      obtain ⟨rfl, rfl⟩ := hva
      have KS : Hid (∀ W, Below wr.heap.size wr W → W.cell? ⟨w.heap.size, 7, none⟩ = some (.slice (some ⟨mb, mo, none⟩) m.cs.length co) ∧ W.cell? ⟨mb, mo + i * 3, none⟩ = some (.int .i64 c.e) ∧ W.cell? ⟨mb, mo + i * 3 + 1, none⟩ = some (.int .i64 c.n) ∧ W.cell? ⟨mb, mo + i * 3 + 2, none⟩ = some (.slice ya c.l.length yk) ∧ W.cell? ⟨ab, abo + n * 3, none⟩ = some (.int .i64 c.e) ∧ W.cell? ⟨ab, abo + n * 3 + 1, none⟩ = some (.int .i64 x.n) ∧ W.cell? ⟨ab, abo + n * 3 + 2, none⟩ = some (.slice xa x.l.length xk)) := hide fun W hW =>
        ⟨(hW.cell (World.block_lt_of_cell? _ _ c7)).trans c7, (hW.cell (World.block_lt_of_cell? _ _ e0)).trans e0, (hW.cell (World.block_lt_of_cell? _ _ e1)).trans e1, (hW.cell (World.block_lt_of_cell? _ _ e2)).trans e2, (hW.cell (World.block_lt_of_cell? _ _ x0)).trans x0, (hW.cell (World.block_lt_of_cell? _ _ x1)).trans x1, (hW.cell (World.block_lt_of_cell? _ _ x2)).trans x2⟩
      clear hmcell hacell hc hx hcn hcn' hdd hde hdc hxd hxe hix hic hxv hyv GR h8l hmb hab
      by_cases hlr' : (r.length : Int) < c.n
      · have k1 : decide (c.n < 1) = false := decide_eq_false hn1
        have k2 : decide ((af.length : Int) < c.n) = false := decide_eq_false hn2
        have k3 : decide ((r.length : Int) < c.n) = true := decide_eq_true hlr'
        have bz : Below wr.heap.size wr wr := Below.refl _ _
        go_wp2_with fail
        go_cut [118] from 76 to 118 (fun vb wx => vb = .bool false ∧ Hid (Below wr.heap.size wr wx))
        case first =>
          go_region_held3 (fun W => W.cell? ⟨w.heap.size, 7, none⟩ = some (.slice (some ⟨mb, mo, none⟩) m.cs.length co) ∧ W.cell? ⟨mb, mo + i * 3, none⟩ = some (.int .i64 c.e) ∧ W.cell? ⟨mb, mo + i * 3 + 1, none⟩ = some (.int .i64 c.n) ∧ W.cell? ⟨mb, mo + i * 3 + 2, none⟩ = some (.slice ya c.l.length yk) ∧ W.cell? ⟨ab, abo + n * 3, none⟩ = some (.int .i64 c.e) ∧ W.cell? ⟨ab, abo + n * 3 + 1, none⟩ = some (.int .i64 x.n) ∧ W.cell? ⟨ab, abo + n * 3 + 2, none⟩ = some (.slice xa x.l.length xk)) (first | exact ⟨c7, e0, e1, e2, x0, x1, x2⟩ | exact KS.out _ bz.drew | exact KS.out _ bq.out | go_keep)
            (first | (go_at_call 23; refine (CS.out _ bz.drew hlr').mono ?_; rintro E wq ⟨rfl, bq'⟩; have bq : Hid (Below wr.heap.size wr wq) := hide (bz.drew.trans bq'); clear bq'))
          all_goals
            go_wp2_with fail
            go_meet
            exact ⟨rfl, bq⟩
        case rest =>
          obtain ⟨rfl, BQ⟩ := hcut
          have BN : Hid (Below w5.heap.size w5 wc) := hide (BR.out.trans (BQ.out.mono BR.out.size))
          go_wp2
          go_roundw
          case rel => exact ⟨i + 1, by go_num, by omega, BN⟩
          case measure => simp [intOf]; omega
      · have k1 : decide (c.n < 1) = false := decide_eq_false hn1
        have k2 : decide ((af.length : Int) < c.n) = false := decide_eq_false hn2
        have k3 : decide ((r.length : Int) < c.n) = false := decide_eq_false hlr'
        have bz : Below wr.heap.size wr wr := Below.refl _ _
        clear CS KS
        go_wp2_with fail
        go_quiet (fail)
        go_wp2
        go_roundw
        case rel => exact ⟨i + 1, by go_num, by omega, hide (below_drewN BR.out _)⟩
        case measure => simp [intOf]; omega
    · have hlt' : ¬ (i : Int) < m.cs.length := by omega
      have TK : Hid (Calls Try.prog 8 #[.int .i64 e, .slice a8 af.length k8, .agg #[.int .i64 m.k, .int .i64 m.e, .int .u8 m.r, .int .i64 m.n, .slice sa m.ss.length so, .int .i64 m.f, .int .i64 m.p, .slice ca m.cs.length co]] wr (TkR wr 0 [])) := hide (by
        have q := ptake_any e _ r8 m 0 wr (G8.out.below BR.out).isC G8.out.f (by rw [← cvs_n, G8.out.is]; have := A44.out; omega) (HM.out.below bW) FM.out HCK.out HEK.out
        rw [HMV.out, G8.out.is, TW.out.1, TW.out.2] at q
        exact q)
      obtain ⟨d0, d1, d2, d3, d4, d5, d6, _⟩ := EI5.out wr (BR.out.mono HL5.out)
      go_wp2_with fail
      refine TK.out.mono ?_
      intro E w7 hE
      obtain ⟨a9, j9, cs9, rfl, T9⟩ := hE.open
      have b7 := BR.out.trans (T9.bel.mono BR.out.size)
      have d5' := (EI5.out w7 (b7.mono HL5.out)).c5
      have d7' := (EI5.out w7 (b7.mono HL5.out)).c7
      have B7 := hide (B5.out.trans (b7.mono B5.out.size))
      have hal := AL2.out
      have hw2 : IntKind.i64.wrap (m.f - 1) = m.f - 1 := wrap64s _ (by have := MF.out; omega) (by have := MF.out; have := HS1.out.1; omega)
      have hw3 : IntKind.i64.wrap (m.f - 1 + (m.cs.length : Int)) = m.f - 1 + (m.cs.length : Int) := wrap64s _ (by have := MF.out; omega) (by have := MF.out; have := HS1.out.1; have := HS2.out.1; omega)
      clear hE TK T9 b7 d0 d1 d2 d3 d4 d5 d6 c7
      by_cases hmx : (r.length : Int) < m.f - 1 + (m.cs.length : Int)
      · have hal2 : (af.length : Int) = m.f - 1 + (m.cs.length : Int) := by omega
        clear hal
        go_wp2
        all_goals
          go_ret
          exact ⟨by simp, B7.out⟩
      · have hmx' : m.f - 1 + (m.cs.length : Int) ≤ (r.length : Int) := by omega
        have hal2 : (af.length : Int) = (r.length : Int) := by omega
        clear hal
        go_wp2
        all_goals
          go_ret
          exact ⟨by simp, B7.out⟩

theorem takeTwice_walk (e : Int) (v : Value) (r : List Cw) (m : Mw) (w : World) (he : (Lit.int .i64 e).wf = true) (h : IsC w v r) (hf : FitC r) (hl : r.length * 40 ≤ 140737488351232) (hm : IsM w m) (fm : FitM m) :
    Calls Try.prog 5 #[.int .i64 e, v, mv m] w fun E w' => E = .returned (.bool true) ∧ Below w.heap.size w w' := by
  have i1 := range_i64 (zs := [e]) (by simpa using he) 0
  simp only [List.getElem?_cons_zero, Option.getD_some] at i1
  exact takeTwice_w e v r m w ⟨i1.1, by omega⟩ h hf (by omega) hm fm

end Go.Proofs.Ytfnaeblbodfekaa
