/- Texts of one layer, one behind the other. -/
import Derived.Test.YtfnaeblbodfekaaG5
import Derived.Test.YtfnaeblbodfekaaG1
import Derived.Test.YtfnaeblbodfekaaG3
import Derived.Test.YtfnaeblbodfekaaG7
import Derived.Test.YtfnaeblbodfekaaG6
import Derived.Deep.RegionHeld3
/- The contracts of the document's reader: Small, Bytes. -/
namespace Go.Proofs.Ytfnaeblbodfekaa
open Go.RowKit
set_option linter.unusedVariables false

/-- What a reader's Small does. -/
def SStep (bs : List Int) (most a : Nat) (bad : Bool) (u a' : Nat) (bad' : Bool) : Prop :=
  (bad = true ∧ bad' = true ∧ u = 0 ∧ a' = a) ∨ (bad = false ∧ bad' = true ∧ u = 0 ∧ a' = a ∧ ∀ x : Nat, x ≤ most → ¬ Vm.enc x <+: bs.drop a) ∨ (bad = false ∧ bad' = false ∧ u ≤ most ∧ Vm.enc u <+: bs.drop a ∧ a' = a + Vm.sz u)

/-- What a reader's Bytes does. -/
def BStep (bs : List Int) (n a : Nat) (bad : Bool) (zs : List Int) (a' : Nat) (bad' : Bool) : Prop :=
  ((bad = true ∨ bs.length - a < n) ∧ bad' = true ∧ zs = [] ∧ a' = a) ∨ (bad = false ∧ n ≤ bs.length - a ∧ bad' = false ∧ zs = (bs.drop a).take n ∧ a' = a + n)

end Go.Proofs.Ytfnaeblbodfekaa

/- Messages, by mathematics: what a reader of their bytes comes to, step by step. No program. -/
namespace Go.Proofs.Ytfnaeblbodfekaa.Mm
set_option linter.unusedVariables false

/-- A message that has nothing but what its kind has, whatever that is. -/
def Sh (m : Msg) : Prop := (∀ z ∈ hd m, 0 ≤ z) ∧ ((m.k = 1 ∧ m.f = 0 ∧ m.p = 0 ∧ m.cs = []) ∨ (m.k = 2 ∧ m.r = 0 ∧ m.n = 0 ∧ m.ss = [] ∧ ∀ c ∈ m.cs, Cm.chk c.e c.n c.l = 0) ∨ (m.k = 3 ∧ m.r = 0 ∧ m.ss = [] ∧ m.f = 0 ∧ m.p = 0 ∧ m.cs = []))

theorem ok_sh {m : Msg} (h : Ok m) : Sh m := by
  refine ⟨hd_pos h, ?_⟩
  have hc := ok_cs h
  rcases h.2.2 with ⟨k, _, _, _, _, h5, h6, h7⟩ | ⟨k, _, _, _, _, _, _, _, _, h9, h10, h11⟩ | ⟨k, _, _, h3, h4, h5, h6, h7⟩
  · exact .inl ⟨k, h5, h6, h7⟩
  · exact .inr (.inl ⟨k, h9, h10, h11, hc⟩)
  · exact .inr (.inr ⟨k, h3, h4, h5, h6, h7⟩)

theorem sh_k {m : Msg} (h : Sh m) : m.k = 1 ∨ m.k = 2 ∨ m.k = 3 := by
  rcases h.2 with ⟨k, _⟩ | ⟨k, _⟩ | ⟨k, _⟩ <;> simp [k]

theorem sh_cs {m : Msg} (h : Sh m) : ∀ c ∈ m.cs, Cm.chk c.e c.n c.l = 0 := by
  rcases h.2 with ⟨_, _, _, e⟩ | ⟨_, _, _, _, e⟩ | ⟨_, _, _, _, _, e⟩
  · rw [e]; simp
  · exact e
  · rw [e]; simp

theorem hd_sh {m : Msg} (h : m.k = 1 ∨ m.k = 2 ∨ m.k = 3) : 3 ≤ (hd m).length ∧ (hd m).getD 0 0 = m.k ∧ (hd m).getD 1 0 = m.e ∧
    (m.k = 1 → (hd m).length = 5 + 2 * m.ss.length ∧ (hd m).getD 4 0 = (m.ss.length : Int)) ∧ (m.k = 2 → (hd m).length = 5) ∧ (m.k = 3 → (hd m).length = 3) := by
  rcases h with k | k | k
  · rw [hd_1 k]
    exact ⟨by simp, by simp, by simp, fun _ => ⟨by simp [fl_len]; omega, by simp⟩, fun h => by omega, fun h => by omega⟩
  · rw [hd_2 k]
    exact ⟨by simp, by simp, by simp, fun h => by omega, fun _ => by simp, fun h => by omega⟩
  · rw [hd_3 k]
    exact ⟨by simp, by simp, by simp, fun h => by omega, fun h => by omega, fun _ => by simp⟩

theorem sh_free {m m' : Msg} (h : Sh m) (h' : Sh m') (hp : hd m <+: hd m') : hd m = hd m' := by
  obtain ⟨a1, a2, a3, a6, a7, a8⟩ := hd_sh (sh_k h)
  obtain ⟨b1, b2, b3, b6, b7, b8⟩ := hd_sh (sh_k h')
  have e0 := pfx_at hp (i := 0) (by omega)
  rw [a2, b2] at e0
  refine hp.eq_of_length ?_
  rcases sh_k h with k | k | k
  · have a := a6 k
    have b := b6 (by omega)
    have e4 := pfx_at hp (i := 4) (by omega)
    rw [a.2, b.2] at e4
    omega
  · have a := a7 k
    have b := b7 (by omega)
    omega
  · have a := a8 k
    have b := b8 (by omega)
    omega

theorem Msg.eq {a b : Msg} (h1 : a.k = b.k) (h2 : a.e = b.e) (h3 : a.r = b.r) (h4 : a.n = b.n) (h5 : a.ss = b.ss) (h6 : a.f = b.f) (h7 : a.p = b.p) (h8 : a.cs = b.cs) : a = b := by
  cases a; cases b; simp at *; exact ⟨h1, h2, h3, h4, h5, h6, h7, h8⟩

/-- Two such messages whose bytes begin one list are one. -/
theorem sh_pre {m m' : Msg} {bs : List Int} (h : Sh m) (h' : Sh m') (h1 : enc m <+: bs) (h2 : enc m' <+: bs) : m = m' := by
  have g1 : Pm.encs (hd m) <+: bs := (List.prefix_append _ _).trans h1
  have g2 : Pm.encs (hd m') <+: bs := (List.prefix_append _ _).trans h2
  have e : hd m = hd m' := by
    rcases encs_both h.1 h'.1 g1 g2 with g | g
    · exact sh_free h h' g
    · exact (sh_free h' h g).symm
  have hcl : m.cs.length = m'.cs.length → m.cs = m'.cs := fun hl => by
    have c1 := Fm.drop_pre h1
    have c2 := Fm.drop_pre h2
    rw [← e] at c2
    exact cb_one (sh_cs h) (sh_cs h') (cat_one' (by simpa using hl) c1 c2)
  obtain ⟨_, a2, a3, _⟩ := hd_sh (sh_k h)
  obtain ⟨_, b2, b3, _⟩ := hd_sh (sh_k h')
  rw [e] at a2 a3
  have ek : m.k = m'.k := a2.symm.trans b2
  have ee : m.e = m'.e := a3.symm.trans b3
  rcases h.2 with ⟨k, f1, p1, c1⟩ | ⟨k, r1, n1, s1, _⟩ | ⟨k, r1, s1, f1, p1, c1⟩
  · rcases h'.2 with ⟨k', f2, p2, c2⟩ | ⟨k', _⟩ | ⟨k', _⟩
    · have e2 := e
      rw [hd_1 k, hd_1 k'] at e2
      simp at e2
      exact Msg.eq ek ee e2.2.2.1 e2.2.2.2.1 (fl_one e2.2.2.2.2.2) (by omega) (by omega) (by rw [c1, c2])
    · omega
    · omega
  · rcases h'.2 with ⟨k', _⟩ | ⟨k', r2, n2, s2, _⟩ | ⟨k', _⟩
    · omega
    · have e2 := e
      rw [hd_2 k, hd_2 k'] at e2
      simp at e2
      exact Msg.eq ek ee (by omega) (by omega) (by rw [s1, s2]) e2.2.2.1 e2.2.2.2.1 (hcl (by omega))
    · omega
  · rcases h'.2 with ⟨k', _⟩ | ⟨k', _⟩ | ⟨k', r2, s2, f2, p2, c2⟩
    · omega
    · omega
    · have e2 := e
      rw [hd_3 k, hd_3 k'] at e2
      simp at e2
      exact Msg.eq ek ee (by omega) e2.2.2 (by rw [s1, s2]) (by omega) (by omega) (by rw [c1, c2])

/-- In the midst: these numbers stand at the front, or there is no message. -/
def Go (bs l : List Int) (a : Nat) (b : Bool) : Prop :=
  (b = false ∧ (∀ z ∈ l, 0 ≤ z) ∧ Pm.encs l <+: bs ∧ a = (Pm.encs l).length) ∨ (b = true ∧ Dc bs no 5)

theorem go_start (bs : List Int) : Go bs [] 0 false := .inl ⟨rfl, by simp, by simp [Pm.encs], rfl⟩

/-- What a message has behind these numbers is a number, and not above that. -/
def Nx (l : List Int) (mx : Nat) : Prop := ∀ m, Ok m → (l <+: hd m ∨ hd m <+: l) → l.length < (hd m).length ∧ (hd m).getD l.length 0 ≤ mx

theorem go_step {bs l : List Int} {a u a' mx : Nat} {b b' : Bool} (h : Go bs l a b) (s : SStep bs mx a b u a' b') (hq : Nx l mx) : Go bs (l ++ [(u : Int)]) a' b' := by
  rcases h with ⟨rfl, h1, h2, rfl⟩ | ⟨rfl, h⟩
  · rcases s with ⟨h, _⟩ | ⟨_, rfl, _, _, h⟩ | ⟨_, rfl, _, h3, rfl⟩
    · simp at h
    · exact .inr ⟨rfl, dc_stop h1 h2 h hq⟩
    · refine .inl ⟨rfl, fun z hz => ?_, ?_, ?_⟩
      · rcases List.mem_append.1 hz with hz | hz
        · exact h1 z hz
        · simp at hz; omega
      · rw [Pm.encs_app]
        refine Fm.pre_drop h2 ?_
        simpa [Pm.encs] using h3
      · rw [Pm.encs_app, List.length_append]
        simp [Pm.encs, Vm.sz]
  · rcases s with ⟨_, rfl, _⟩ | ⟨h, _⟩ | ⟨h, _⟩
    · exact .inr ⟨rfl, h⟩
    · simp at h
    · simp at h

/-- Numbers that begin a message's tell its kind. -/
theorem pfx_k {l : List Int} {k : Int} {m : Msg} (hm : Ok m) (h : (k :: l) <+: hd m ∨ hd m <+: (k :: l)) : m.k = k := by
  obtain ⟨a1, a2, _⟩ := hd_sh (sh_k (ok_sh hm))
  rcases h with h | h
  · have := pfx_at h (i := 0) (by simp)
    rw [a2] at this
    simpa using this
  · have := pfx_at h (i := 0) (by omega)
    rw [a2] at this
    simpa using this.symm

theorem nx_le {l : List Int} {mx : Nat} (hmx : 1048576 ≤ mx) (h : ∀ m, Ok m → (l <+: hd m ∨ hd m <+: l) → l.length < (hd m).length) : Nx l mx := fun m hm hp => by
  have hl := h m hm hp
  refine ⟨hl, ?_⟩
  have : (hd m).getD l.length 0 ∈ hd m := by rw [List.getD_eq_getElem?_getD, List.getElem?_eq_getElem hl]; simp
  have := ((hd_ok hm).1 _ this).2
  omega

theorem nx_0 : Nx [] 3 := fun m hm _ => by
  obtain ⟨_, h3, h0, _, h1, h2, _⟩ := hd_ok hm
  exact ⟨by simp; omega, by simp only [List.length_nil]; rw [h0]; omega⟩

theorem nx_1 (k : Int) : Nx [k] 1048576 := nx_le (by omega) fun m hm _ => by have := (hd_ok hm).2.1; simp; omega

theorem nx_no (e : Int) (l : List Int) (mx : Nat) : Nx (0 :: l) mx := fun m hm hp => by
  have := pfx_k hm hp
  have := sh_k (ok_sh hm)
  omega

theorem nx_3 (e : Int) : Nx [3, e] 1048576 := nx_le (by omega) fun m hm _ => by have := (hd_ok hm).2.1; simp; omega

theorem nx_12 (e : Int) : Nx [1, e] 3 := fun m hm hp => by
  have hk := pfx_k hm hp
  obtain ⟨_, h3, _, _, _, _, h6, _⟩ := hd_ok hm
  obtain ⟨_, h7, h8, _⟩ := h6 hk
  refine ⟨by simp; omega, ?_⟩
  simp only [List.length_cons, List.length_nil]
  rw [h7]
  exact h8

theorem nx_13 (e r : Int) : Nx [1, e, r] 1048576 := nx_le (by omega) fun m hm hp => by
  have := ((hd_ok hm).2.2.2.2.2.2.1 (pfx_k hm hp)).1
  simp; omega
theorem nx_14 (e r n : Int) : Nx [1, e, r, n] 1048576 := nx_le (by omega) fun m hm hp => by
  have := ((hd_ok hm).2.2.2.2.2.2.1 (pfx_k hm hp)).1
  simp; omega

theorem nx_15 (e r n : Int) (c : Nat) (fs : List Int) (hf : fs.length < 2 * c) : Nx ([1, e, r, n, (c : Int)] ++ fs) 1048576 := nx_le (by omega) fun m hm hp => by
  have hk := pfx_k hm (by simpa using hp)
  obtain ⟨h5, _, _, _, h4, hl⟩ := (hd_ok hm).2.2.2.2.2.2.1 hk
  have e4 : (hd m).getD 4 0 = (c : Int) := by
    rcases hp with hp | hp
    · have := pfx_at hp (i := 4) (by simp)
      simpa using this
    · have := pfx_at hp (i := 4) (by omega)
      simpa using this.symm
  rw [h4] at e4
  simp
  omega

theorem nx_22 (e : Int) : Nx [2, e] 1048576 := nx_le (by omega) fun m hm _ => by have := (hd_ok hm).2.1; simp; omega
theorem nx_23 (e f : Int) : Nx [2, e, f] 1048576 := nx_le (by omega) fun m hm hp => by
  have := ((hd_ok hm).2.2.2.2.2.2.2.1 (pfx_k hm hp)).1
  simp; omega
theorem nx_24 (e f p : Int) : Nx [2, e, f, p] 4 := fun m hm hp => by
  obtain ⟨h1, _, _, h4, h5⟩ := (hd_ok hm).2.2.2.2.2.2.2.1 (pfx_k hm hp)
  refine ⟨by simp; omega, ?_⟩
  simp only [List.length_cons, List.length_nil]
  rw [h4]
  omega

/-- In the midst of the commits. -/
def GoC (bs l : List Int) (cs : List Cm.Cv) (a : Nat) (b : Bool) : Prop :=
  (b = false ∧ (∀ z ∈ l, 0 ≤ z) ∧ (∀ c ∈ cs, Cm.chk c.e c.n c.l = 0) ∧ Pm.encs l ++ Fm.cat (cs.map cb) <+: bs ∧ a = (Pm.encs l ++ Fm.cat (cs.map cb)).length) ∨ (b = true ∧ Dc bs no 5)

theorem Go.c {bs l : List Int} {a : Nat} {b : Bool} (h : Go bs l a b) : GoC bs l [] a b := by
  rcases h with ⟨rfl, h1, h2, h3⟩ | h
  · exact .inl ⟨rfl, h1, by simp, by simpa [Fm.cat] using h2, by simpa [Fm.cat] using h3⟩
  · exact .inr h

/-- What reading one commit does. -/
def CStep (bs : List Int) (a : Nat) (b : Bool) (c : Cm.Cv) (a' : Nat) (b' : Bool) : Prop :=
  (b = true ∧ b' = true) ∨ (b = false ∧ b' = true ∧ ∀ c' : Cm.Cv, Cm.chk c'.e c'.n c'.l = 0 → ¬ Fm.frm (cb c') <+: bs.drop a) ∨ (b = false ∧ b' = false ∧ Cm.chk c.e c.n c.l = 0 ∧ Fm.frm (cb c) <+: bs.drop a ∧ a' = a + (Fm.frm (cb c)).length)

theorem cat_snoc (l : List (List Int)) (r : List Int) : Fm.cat (l ++ [r]) = Fm.cat l ++ Fm.frm r := by rw [Fm.cat_app, Fm.cat_one]

theorem goc_step {bs : List Int} {e f p : Int} {n : Nat} {cs : List Cm.Cv} {c : Cm.Cv} {a a' : Nat} {b b' : Bool} (h : GoC bs [2, e, f, p, (n : Int)] cs a b) (s : CStep bs a b c a' b') (hn : cs.length < n) : GoC bs [2, e, f, p, (n : Int)] (cs ++ [c]) a' b' := by
  rcases h with ⟨rfl, h1, h2, h3, rfl⟩ | ⟨rfl, h⟩
  · rcases s with ⟨h, _⟩ | ⟨_, rfl, hx⟩ | ⟨_, rfl, hc, h4, rfl⟩
    · simp at h
    · refine .inr ⟨rfl, .inr ⟨rfl, rfl, fun m hm eb => ?_⟩⟩
      have hl : Pm.encs [2, e, f, p, (n : Int)] <+: bs := (List.prefix_append _ _).trans h3
      have hm1 : Pm.encs (hd m) <+: bs := by rw [eb]; exact List.prefix_append _ _
      have hp := encs_both h1 (hd_pos hm) hl hm1
      have hk := pfx_k hm hp
      obtain ⟨k5, _, _, k4, _⟩ := (hd_ok hm).2.2.2.2.2.2.2.1 hk
      have eh : [2, e, f, p, (n : Int)] = hd m := by
        rcases hp with hp | hp
        · exact hp.eq_of_length (by simp [k5])
        · exact (hp.eq_of_length (by simp [k5])).symm
      have en : (m.cs.length : Int) = n := by rw [← k4, ← eh]; simp
      have hlt : cs.length < m.cs.length := by omega
      have hsplit : m.cs = m.cs.take cs.length ++ (m.cs[cs.length] :: m.cs.drop (cs.length + 1)) := by
        rw [← List.drop_eq_getElem_cons hlt, List.take_append_drop]
      have hall := ok_cs hm
      have eb2 : bs = Pm.encs [2, e, f, p, (n : Int)] ++ (Fm.cat ((m.cs.take cs.length).map cb) ++ (Fm.frm (cb m.cs[cs.length]) ++ Fm.cat ((m.cs.drop (cs.length + 1)).map cb))) := by
        rw [eb]
        unfold enc
        rw [eh]
        conv => lhs; rw [hsplit]
        rw [List.map_append, Fm.cat_app, List.map_cons]
        rfl
      have c1 : Fm.cat (cs.map cb) <+: bs.drop (Pm.encs [2, e, f, p, (n : Int)]).length := Fm.drop_pre h3
      have c2 : Fm.cat ((m.cs.take cs.length).map cb) <+: bs.drop (Pm.encs [2, e, f, p, (n : Int)]).length := by
        rw [eb2, List.drop_left]
        exact List.prefix_append _ _
      have ec : cs.map cb = (m.cs.take cs.length).map cb := cat_one' (by simp; omega) c1 c2
      refine hx m.cs[cs.length] (hall _ (List.getElem_mem hlt)) ?_
      rw [ec]
      have : bs.drop (Pm.encs [2, e, f, p, (n : Int)] ++ Fm.cat ((m.cs.take cs.length).map cb)).length = Fm.frm (cb m.cs[cs.length]) ++ Fm.cat ((m.cs.drop (cs.length + 1)).map cb) := by
        conv => lhs; rw [eb2]
        rw [← List.append_assoc, List.drop_left]
      rw [this]
      exact List.prefix_append _ _
    · refine .inl ⟨rfl, h1, fun x hx => ?_, ?_, ?_⟩
      · rcases List.mem_append.1 hx with hx | hx
        · exact h2 x hx
        · rw [List.mem_singleton.1 hx]; exact hc
      · rw [List.map_append, List.map_singleton, cat_snoc, ← List.append_assoc]
        exact Fm.pre_drop h3 h4
      · rw [List.map_append, List.map_singleton, cat_snoc, ← List.append_assoc]; exact (List.length_append).symm
  · rcases s with ⟨_, rfl⟩ | ⟨h, _⟩ | ⟨h, _⟩
    · exact .inr ⟨rfl, h⟩
    · simp at h
    · simp at h

/-- At the end. -/
theorem go_end {bs : List Int} {m : Msg} {a : Nat} {b : Bool} (h : GoC bs (hd m) m.cs a b) (hs : b = false → Sh m) : ((b = false ∧ a = bs.length ∧ Ok m) ∧ Dc bs m 0) ∨ (¬ (b = false ∧ a = bs.length ∧ Ok m) ∧ Dc bs no 5) := by
  by_cases hb : b = false ∧ a = bs.length ∧ Ok m
  · refine .inl ⟨hb, ?_⟩
    obtain ⟨rfl, rfl, hm⟩ := hb
    rcases h with ⟨_, _, _, h3, h4⟩ | ⟨h, _⟩
    · exact .inl ⟨rfl, hm, (h3.eq_of_length h4.symm).symm⟩
    · simp at h
  · refine .inr ⟨hb, ?_⟩
    rcases h with ⟨rfl, h1, h2, h3, h4⟩ | ⟨_, h⟩
    · refine .inr ⟨rfl, rfl, fun m' hm' e => ?_⟩
      have := sh_pre (hs rfl) (ok_sh hm') (bs := bs) h3 (by rw [e]; exact List.prefix_refl _)
      subst this
      refine hb ⟨rfl, ?_, hm'⟩
      rw [h4, e]
      rfl
    · exact h

/-- No kind. -/
theorem go_none {bs l : List Int} {a : Nat} {b : Bool} (h : Go bs (0 :: l) a b) : Dc bs no 5 := by
  rcases h with ⟨rfl, h1, h2, h4⟩ | ⟨_, h⟩
  · refine .inr ⟨rfl, rfl, fun m' hm' e => ?_⟩
    have hm1 : Pm.encs (hd m') <+: bs := by rw [e]; exact List.prefix_append _ _
    have := pfx_k hm' (encs_both h1 (hd_pos hm') h2 hm1)
    have := sh_k (ok_sh hm')
    omega
  · exact h

end Go.Proofs.Ytfnaeblbodfekaa.Mm

/- Lists of commits: the same, of the call's own, apart. -/
namespace Go.Proofs.Ytfnaeblbodfekaa
open Go.RowKit
set_option linter.unusedVariables false

/-- Whether two lists of commits are the same. -/
def sameV : List Cm.Cv → List Cm.Cv → Bool
  | [], [] => true
  | c :: r, d :: s => sameC c.e c.n c.l d.e d.n d.l && sameV r s
  | _, _ => false

theorem sameC_iff {e n e' n' : Int} {l l' : List Bm.Ov} : sameC e n l e' n' l' = true ↔ e = e' ∧ n = n' ∧ l = l' := by
  simp [sameC, Bm.sameL_iff]

theorem sameV_iff : ∀ {r s : List Cm.Cv}, sameV r s = true ↔ r = s
  | [], [] => by simp [sameV]
  | [], _ :: _ => by simp [sameV]
  | _ :: _, [] => by simp [sameV]
  | ⟨e, n, l⟩ :: r, ⟨e', n', l'⟩ :: s => by
    simp only [sameV, Bool.and_eq_true, sameC_iff, sameV_iff (r := r) (s := s)]
    simp [and_assoc]

theorem sameV_no {r s : List Cm.Cv} (h : r ≠ s) : sameV r s = false := by
  cases hs : sameV r s
  · rfl
  · exact absurd (sameV_iff.1 hs) h

theorem sameV_self (r : List Cm.Cv) : sameV r r = true := sameV_iff.2 rfl

theorem cvs_length (r : List Cw) : (cvs r).length = r.length := by unfold cvs; rw [List.length_map]

/-- A list's cells, where there are any. -/
theorem isC_cells {w : World} {v : Value} {r : List Cw} (h : IsC w v r) : 0 < r.length → ∃ b1 o1 c1, v = .slice (some ⟨b1, o1, none⟩) r.length c1 ∧ b1 < w.heap.size ∧ ∀ i c, r[i]? = some c → w.cell? ⟨b1, o1 + i * 3, none⟩ = some (.int .i64 c.e) ∧ w.cell? ⟨b1, o1 + i * 3 + 1, none⟩ = some (.int .i64 c.n) ∧ w.cell? ⟨b1, o1 + i * 3 + 2, none⟩ = some c.v := by
  intro hp
  obtain ⟨b1, o1, c1, hv, _, _, hB, hc⟩ := h.1.full hp
  exact ⟨b1, o1, c1, hv, hB, hc⟩

theorem cvs_get (r : List Cw) (k : Nat) : (cvs r)[k]? = (r[k]?).map Cw.c := by unfold cvs; rw [List.getElem?_map]

set_option maxHeartbeats 1000000 in
theorem sameCs_any (va vb : Value) (r s : List Cw) (w : World) (ha : IsC w va r) (hb : IsC w vb s) (fa : FitC r) (fb : FitC s) (hl : r.length ≤ 140737488355328) (hl' : s.length ≤ 140737488355328) :
    Calls Try.prog 17 #[va, vb] w fun E w' => E = .returned (.bool (sameV (cvs r) (cvs s))) ∧ Below w.heap.size w w' := by
  obtain ⟨ans, hans⟩ : ∃ x, sameV (cvs r) (cvs s) = x := ⟨_, rfl⟩
  rw [hans]
  have HA := hide hans
  clear hans
  obtain ⟨a1, p1, hva, _, _⟩ := ha.1.shape
  obtain ⟨a2, p2, hvb, _, _⟩ := hb.1.shape
  by_cases hne : r.length = s.length
  · have C1 := hide (isC_cells ha)
    have C2 := hide (isC_cells hb)
    have I1 := hide ha.2
    have I2 := hide hb.2
    have F1 := hide fa
    have F2 := hide fb
    have HL := hide hne
    have ht : ((r.length : Int) != (s.length : Int)) = false := by simp; omega
    subst hva hvb
    generalize hn : r.length = n at *
    generalize hm : s.length = m at *
    have HN := hide hn
    have HM := hide hm
    clear ha hb fa fb hne hn hm
    go_enter Try.func17, Try.ntmps17
    go_wp2
    go_loopw [5] (fun i wr => ∃ (k : Nat), k ≤ n ∧ i = .int .i64 k ∧ Hid ((cvs r).take k = (cvs s).take k) ∧ Below w.heap.size w wr) (fun i _ => n - (intOf i).toNat)
    case atStart => exact ⟨0, by omega, rfl, hide rfl, Below.refl _ _⟩
    case round =>
      obtain ⟨k, hk, rfl, HT, bel⟩ := hrel
      have sz := bel.size
      by_cases hlt : k < n
      · obtain ⟨b1, o1, c1, hv1, hB1, hc1⟩ := C1.out (by have := HN.out; omega)
        obtain ⟨b2, o2, c2, hv2, hB2, hc2⟩ := C2.out (by have := HM.out; have := HL.out; omega)
        simp only [Value.slice.injEq, true_and] at hv1 hv2
        obtain ⟨rfl, rfl⟩ := hv1
        obtain ⟨rfl, rfl⟩ := hv2
        have hkr : k < r.length := by have := HN.out; omega
        have hks : k < s.length := by have := HM.out; have := HL.out; omega
        obtain ⟨c, hc⟩ : ∃ c, r[k]? = some c := ⟨r[k], List.getElem?_eq_getElem hkr⟩
        obtain ⟨d, hd⟩ : ∃ d, s[k]? = some d := ⟨s[k], List.getElem?_eq_getElem hks⟩
        obtain ⟨x0, x1, x2⟩ := row_at hc1 bel hB1 hc
        obtain ⟨y0, y1, y2⟩ := row_at hc2 bel hB2 hd
        have i1 := (I1.out c (List.mem_of_getElem? hc)).1.below bel
        have i2 := (I2.out d (List.mem_of_getElem? hd)).1.below bel
        have l1 := (F1.out c (List.mem_of_getElem? hc)).2
        have l2 := (F2.out d (List.mem_of_getElem? hd)).2
        have hlt' : (k : Int) < n := by omega
        have hlt2 : (k : Int) < m := by have := HL.out; omega
        have hB1' : b1 < wr.heap.size := by omega
        have hB2' : b2 < wr.heap.size := by omega
        have X := hide (fun W (h1 : IsO W c.v c.l) (h2 : IsO W d.v d.l) => csameK_any c.e c.n _ c.l d.e d.n _ d.l W h1 h2 (by omega) (by omega))
        have HC := hide hc
        have HD := hide hd
        obtain ⟨sm, hsm⟩ : ∃ x, sameC c.e c.n c.l d.e d.n d.l = x := ⟨_, rfl⟩
        rw [hsm] at X
        have HSM := hide hsm
        clear hc hd hc1 hc2 l1 l2 hsm
        cases sm
        · have hfo := HA.out
          rw [sameV_no fun e => by
            have h1 : (cvs r)[k]? = some c.c := by rw [cvs_get, HC.out]; rfl
            rw [e, cvs_get, HD.out] at h1
            have h2 : d.c = c.c := by simpa using h1
            obtain ⟨q1, q2, q3⟩ := cw_ext h2
            have := HSM.out
            rw [sameC_iff.2 ⟨q1.symm, q2.symm, q3.symm⟩] at this
            simp at this] at hfo
          subst hfo
          go_wp2_with fail
          go_region_held3 (fun w' => (w'.cell? ⟨b1, o1 + k * 3, none⟩ = some (.int .i64 c.e) ∧ w'.cell? ⟨b1, o1 + k * 3 + 1, none⟩ = some (.int .i64 c.n) ∧ w'.cell? ⟨b1, o1 + k * 3 + 2, none⟩ = some c.v) ∧ (w'.cell? ⟨b2, o2 + k * 3, none⟩ = some (.int .i64 d.e) ∧ w'.cell? ⟨b2, o2 + k * 3 + 1, none⟩ = some (.int .i64 d.n) ∧ w'.cell? ⟨b2, o2 + k * 3 + 2, none⟩ = some d.v)) (first | exact ⟨⟨x0, x1, x2⟩, ⟨y0, y1, y2⟩⟩ | exact ⟨⟨g0, g1, g2⟩, ⟨h0, h1, h2⟩⟩ | go_keep)
            (first
            | (go_at_call 36; refine (X.out _ (i1.drewN 1) (i2.drewN 1)).mono ?_; rintro E w3 ⟨rfl, bel3'⟩; have bel3 : Below wr.heap.size wr w3 := ((Below.refl _ _).drew).trans bel3'; have g0 := (bel3.cell (p := ⟨b1, o1 + k * 3, none⟩) hB1').trans x0; have g1 := (bel3.cell (p := ⟨b1, o1 + k * 3 + 1, none⟩) hB1').trans x1; have g2 := (bel3.cell (p := ⟨b1, o1 + k * 3 + 2, none⟩) hB1').trans x2; have h0 := (bel3.cell (p := ⟨b2, o2 + k * 3, none⟩) hB2').trans y0; have h1 := (bel3.cell (p := ⟨b2, o2 + k * 3 + 1, none⟩) hB2').trans y1; have h2 := (bel3.cell (p := ⟨b2, o2 + k * 3 + 2, none⟩) hB2').trans y2; clear bel3'))
          have belR := bel.trans (bel3.mono (by omega))
          go_wp2
          go_ret
          exact ⟨rfl, belR⟩
        · have HT2 : Hid ((cvs r).take (k + 1) = (cvs s).take (k + 1)) := hide (by
            obtain ⟨q1, q2, q3⟩ := sameC_iff.1 HSM.out
            rw [List.take_add_one, List.take_add_one, HT.out, cvs_get, cvs_get, HC.out, HD.out]
            simp [Cw.c, q1, q2, q3])
          go_wp2_with fail
          go_region_held3 (fun w' => (w'.cell? ⟨b1, o1 + k * 3, none⟩ = some (.int .i64 c.e) ∧ w'.cell? ⟨b1, o1 + k * 3 + 1, none⟩ = some (.int .i64 c.n) ∧ w'.cell? ⟨b1, o1 + k * 3 + 2, none⟩ = some c.v) ∧ (w'.cell? ⟨b2, o2 + k * 3, none⟩ = some (.int .i64 d.e) ∧ w'.cell? ⟨b2, o2 + k * 3 + 1, none⟩ = some (.int .i64 d.n) ∧ w'.cell? ⟨b2, o2 + k * 3 + 2, none⟩ = some d.v)) (first | exact ⟨⟨x0, x1, x2⟩, ⟨y0, y1, y2⟩⟩ | exact ⟨⟨g0, g1, g2⟩, ⟨h0, h1, h2⟩⟩ | go_keep)
            (first
            | (go_at_call 36; refine (X.out _ (i1.drewN 1) (i2.drewN 1)).mono ?_; rintro E w3 ⟨rfl, bel3'⟩; have bel3 : Below wr.heap.size wr w3 := ((Below.refl _ _).drew).trans bel3'; have g0 := (bel3.cell (p := ⟨b1, o1 + k * 3, none⟩) hB1').trans x0; have g1 := (bel3.cell (p := ⟨b1, o1 + k * 3 + 1, none⟩) hB1').trans x1; have g2 := (bel3.cell (p := ⟨b1, o1 + k * 3 + 2, none⟩) hB1').trans x2; have h0 := (bel3.cell (p := ⟨b2, o2 + k * 3, none⟩) hB2').trans y0; have h1 := (bel3.cell (p := ⟨b2, o2 + k * 3 + 1, none⟩) hB2').trans y1; have h2 := (bel3.cell (p := ⟨b2, o2 + k * 3 + 2, none⟩) hB2').trans y2; clear bel3'))
          have belR := bel.trans (bel3.mono (by omega))
          clear x0 x1 x2 y0 y1 y2 g0 g1 g2 h0 h1 h2 i1 i2 bel3 bel
          go_wp2
          go_roundw
          case rel => exact ⟨k + 1, by omega, by go_num, HT2, belR⟩
          case measure => simp [intOf]; omega
      · have hlt' : ¬ (k : Int) < n := by omega
        have hfo := HA.out
        rw [sameV_iff.2 (by
          have h1 := HT.out
          rw [List.take_of_length_le (by rw [cvs_length, HN.out]; omega), List.take_of_length_le (by rw [cvs_length, HM.out]; have := HL.out; omega)] at h1
          exact h1)] at hfo
        subst hfo
        clear HA
        go_wp2
        go_ret
        exact ⟨rfl, bel⟩
  · have ht : ((r.length : Int) != (s.length : Int)) = true := by simp; omega
    have hfo := HA.out
    rw [sameV_no fun e => hne (by rw [← cvs_length r, ← cvs_length s, e])] at hfo
    subst hfo hva hvb
    clear hne HA
    go_enter Try.func17, Try.ntmps17
    go_wp2
    go_ret
    exact ⟨rfl, Below.refl _ _⟩

/-- Commits whose ops lie apart. -/
def ApC (cs : List Cw) : Prop := ∀ (i j : Nat) (c d : Cw), i ≠ j → cs[i]? = some c → cs[j]? = some d → c.v.ownBlock = none ∨ c.v.ownBlock ≠ d.v.ownBlock

theorem OwnR.rebase {e base base' : Nat} {w : World} {v : Value} {l : List Cw} (h : OwnR e base w v l) (hb : base' ≤ base) : OwnR e base' w v l := by
  refine ⟨h.1, ?_⟩
  rcases h.2 with h | ⟨g, cap, cur, hv, h1, r⟩
  · exact .inl h
  · exact .inr ⟨g, cap, cur, hv, by omega, r⟩

theorem row_out {e base size n : Nat} {w w' : World} {v : Value} {xs : List Value} {F : Nat → Prop} (h : w.ownsRow base e size v n xs) (ho : Out F w w') (hF : ∀ i, F i → i < base) : w'.ownsRow base e size v n xs :=
  row_agree h fun g hg => ho.block g (World.ownsRow.lt h g hg).2 fun hf => by have := hF g hf; have := (World.ownsRow.lt h g hg).1; omega

theorem row_rebase {e base base' size n : Nat} {w : World} {v : Value} {xs : List Value} (h : w.ownsRow base e size v n xs) (hb : base' ≤ base) : w.ownsRow base' e size v n xs := by
  refine ⟨h.1, ?_⟩
  rcases h.2 with k | ⟨g, cap, cur, hv, h1, r⟩
  · exact .inl k
  · exact .inr ⟨g, cap, cur, hv, Nat.le_trans hb h1, r⟩

theorem apc_snoc {cs : List Cw} {c : Cw} {N : Nat} (h : ApC cs) (h1 : ∀ d ∈ cs, ∀ b, d.v.ownBlock = some b → b < N) (h2 : ∀ b, c.v.ownBlock = some b → N ≤ b) : ApC (cs ++ [c]) := by
  intro i j x y hij hx hy
  have hix := (List.getElem?_eq_some_iff.1 hx).1
  have hjx := (List.getElem?_eq_some_iff.1 hy).1
  rw [List.length_append, List.length_singleton] at hix hjx
  have key : ∀ u v : Value, (∀ b d, u.ownBlock = some b → v.ownBlock = some d → b ≠ d) → u.ownBlock = none ∨ u.ownBlock ≠ v.ownBlock := by
    intro u v h
    cases hu : u.ownBlock with
    | none => exact .inl rfl
    | some b => exact .inr fun e => h b b hu e.symm rfl
  by_cases hi : i < cs.length
  · rw [List.getElem?_append_left hi] at hx
    by_cases hj : j < cs.length
    · rw [List.getElem?_append_left hj] at hy
      exact h i j x y hij hx hy
    · have : j = cs.length := by omega
      subst this
      simp at hy
      subst hy
      exact key _ _ fun b d hb hd => by have := h1 x (List.mem_of_getElem? hx) b hb; have := h2 d hd; omega
  · have : i = cs.length := by omega
    subst this
    simp at hx
    subst hx
    rw [List.getElem?_append_left (by omega)] at hy
    exact key _ _ fun b d hb hd => by have := h2 b hb; have := h1 y (List.mem_of_getElem? hy) d hd; omega

end Go.Proofs.Ytfnaeblbodfekaa

/- A message in memory: eight cells. -/
namespace Go.Proofs.Ytfnaeblbodfekaa
open Go.RowKit
set_option linter.unusedVariables false

/-- A message in memory: kind, epoch, role, end, starts (the slice, what it reads as), from, prev, commits (likewise). -/
structure Mw where
  k : Int
  e : Int
  r : Int
  n : Int
  vs : Value
  ss : List Sm.S
  f : Int
  p : Int
  vc : Value
  cs : List Cw

/-- As a value. -/
def mv (m : Mw) : Value := .agg #[.int .i64 m.k, .int .i64 m.e, .int .u8 m.r, .int .i64 m.n, m.vs, .int .i64 m.f, .int .i64 m.p, m.vc]
/-- Its cells. -/
def mc (m : Mw) : Array Value := #[.int .i64 m.k, .int .i64 m.e, .int .u8 m.r, .int .i64 m.n, m.vs, .int .i64 m.f, .int .i64 m.p, m.vc]
/-- What it says. -/
def Mw.m (m : Mw) : Mm.Msg := ⟨m.k, m.e, m.r, m.n, m.ss, m.f, m.p, cvs m.cs⟩

/-- Nothing in it. -/
def mno : Mw := ⟨0, 0, 0, 0, .slice none 0 0, [], 0, 0, .slice none 0 0, []⟩

/-- Its lists read as they should. -/
structure IsM (w : World) (m : Mw) : Prop where
  s : RowS w m.vs m.ss
  c : IsC w m.vc m.cs

theorem IsC.below' {w w' : World} {v : Value} {r : List Cw} (h : IsC w v r) (hb : Below w.heap.size w w') : IsC w' v r := h.below hb

theorem IsM.below {w w' : World} {m : Mw} (h : IsM w m) (hb : Below w.heap.size w w') : IsM w' m := ⟨h.s.below hb, h.c.below hb⟩

theorem IsM.no (w : World) : IsM w mno := ⟨RowG.nil _ _, IsC.nil _⟩

/-- What any message is. -/
structure FitM (m : Mw) : Prop where
  k : In64 m.k
  e : In64 m.e
  r0 : 0 ≤ m.r
  r1 : m.r < 256
  n : In64 m.n
  f : In64 m.f
  p : In64 m.p
  ls : m.ss.length ≤ 140737488355328
  fc : FitC m.cs
  lc : m.cs.length ≤ 140737488355328

theorem FitM.no : FitM mno := ⟨by simp [In64, mno], by simp [In64, mno], by simp [mno], by simp [mno], by simp [In64, mno], by simp [In64, mno], by simp [In64, mno], by simp [mno], fun c hc => by simp [mno] at hc, by simp [mno]⟩

/-- Eight cells of a block. -/
structure Ei (w : World) (g : Nat) (a b c d e f h i : Value) : Prop where
  c0 : w.cell? ⟨g, 0, none⟩ = some a
  c1 : w.cell? ⟨g, 1, none⟩ = some b
  c2 : w.cell? ⟨g, 2, none⟩ = some c
  c3 : w.cell? ⟨g, 3, none⟩ = some d
  c4 : w.cell? ⟨g, 4, none⟩ = some e
  c5 : w.cell? ⟨g, 5, none⟩ = some f
  c6 : w.cell? ⟨g, 6, none⟩ = some h
  c7 : w.cell? ⟨g, 7, none⟩ = some i

theorem ei_of {w : World} {g : Nat} {t : TypeId} {fr : Nat × Nat} {a b c d e f h i : Value} (k : w.heap[g]? = some (.cells #[a, b, c, d, e, f, h, i] t fr)) : Ei w g a b c d e f h i :=
  ⟨blk_cell k 0 rfl, blk_cell k 1 rfl, blk_cell k 2 rfl, blk_cell k 3 rfl, blk_cell k 4 rfl, blk_cell k 5 rfl, blk_cell k 6 rfl, blk_cell k 7 rfl⟩

/-- Eight cells of a block are written. -/
theorem put8 {V : World} {R : Nat} {t : TypeId} {x0 x1 x2 x3 x4 x5 x6 x7 : Value} (hR : V.heap[R]? = some (.cells #[x0, x1, x2, x3, x4, x5, x6, x7] t (0, 0))) (a b c d e f h i : Value) :
    ∃ V', (((((((V.setCell ⟨R, 0, none⟩ a).setCell ⟨R, 1, none⟩ b).setCell ⟨R, 2, none⟩ c).setCell ⟨R, 3, none⟩ d).setCell ⟨R, 4, none⟩ e).setCell ⟨R, 5, none⟩ f).setCell ⟨R, 6, none⟩ h).setCell ⟨R, 7, none⟩ i = V' ∧ V'.heap[R]? = some (.cells #[a, b, c, d, e, f, h, i] t (0, 0)) ∧ V.grownBy V' (some R) ∧
      Ei V R x0 x1 x2 x3 x4 x5 x6 x7 ∧ (∀ j, V.frozen? ⟨R, j, none⟩ = false) ∧ Ei V' R a b c d e f h i := by
  have k0 : (V.setCell ⟨R, 0, none⟩ a).heap[R]? = some (.cells #[a, x1, x2, x3, x4, x5, x6, x7] t (0, 0)) := set_cells hR 0 a
  have k1 : ((V.setCell ⟨R, 0, none⟩ a).setCell ⟨R, 1, none⟩ b).heap[R]? = some (.cells #[a, b, x2, x3, x4, x5, x6, x7] t (0, 0)) := set_cells k0 1 b
  have k2 : (((V.setCell ⟨R, 0, none⟩ a).setCell ⟨R, 1, none⟩ b).setCell ⟨R, 2, none⟩ c).heap[R]? = some (.cells #[a, b, c, x3, x4, x5, x6, x7] t (0, 0)) := set_cells k1 2 c
  have k3 : ((((V.setCell ⟨R, 0, none⟩ a).setCell ⟨R, 1, none⟩ b).setCell ⟨R, 2, none⟩ c).setCell ⟨R, 3, none⟩ d).heap[R]? = some (.cells #[a, b, c, d, x4, x5, x6, x7] t (0, 0)) := set_cells k2 3 d
  have k4 : (((((V.setCell ⟨R, 0, none⟩ a).setCell ⟨R, 1, none⟩ b).setCell ⟨R, 2, none⟩ c).setCell ⟨R, 3, none⟩ d).setCell ⟨R, 4, none⟩ e).heap[R]? = some (.cells #[a, b, c, d, e, x5, x6, x7] t (0, 0)) := set_cells k3 4 e
  have k5 : ((((((V.setCell ⟨R, 0, none⟩ a).setCell ⟨R, 1, none⟩ b).setCell ⟨R, 2, none⟩ c).setCell ⟨R, 3, none⟩ d).setCell ⟨R, 4, none⟩ e).setCell ⟨R, 5, none⟩ f).heap[R]? = some (.cells #[a, b, c, d, e, f, x6, x7] t (0, 0)) := set_cells k4 5 f
  have k6 : (((((((V.setCell ⟨R, 0, none⟩ a).setCell ⟨R, 1, none⟩ b).setCell ⟨R, 2, none⟩ c).setCell ⟨R, 3, none⟩ d).setCell ⟨R, 4, none⟩ e).setCell ⟨R, 5, none⟩ f).setCell ⟨R, 6, none⟩ h).heap[R]? = some (.cells #[a, b, c, d, e, f, h, x7] t (0, 0)) := set_cells k5 6 h
  have k7 : ((((((((V.setCell ⟨R, 0, none⟩ a).setCell ⟨R, 1, none⟩ b).setCell ⟨R, 2, none⟩ c).setCell ⟨R, 3, none⟩ d).setCell ⟨R, 4, none⟩ e).setCell ⟨R, 5, none⟩ f).setCell ⟨R, 6, none⟩ h).setCell ⟨R, 7, none⟩ i).heap[R]? = some (.cells #[a, b, c, d, e, f, h, i] t (0, 0)) := set_cells k6 7 i
  have k := k7
  refine ⟨_, rfl, k, ?_, ei_of hR, blk_froz hR, ei_of k⟩
  exact grown_trans (grown_trans (grown_trans (grown_trans (grown_trans (grown_trans (grown_trans (grown_setCell V ⟨R, 0, none⟩ a) (grown_setCell _ ⟨R, 1, none⟩ b)) (grown_setCell _ ⟨R, 2, none⟩ c)) (grown_setCell _ ⟨R, 3, none⟩ d)) (grown_setCell _ ⟨R, 4, none⟩ e)) (grown_setCell _ ⟨R, 5, none⟩ f)) (grown_setCell _ ⟨R, 6, none⟩ h)) (grown_setCell _ ⟨R, 7, none⟩ i)

/-- A block of eight cells, made and written. -/
theorem new8 (w : World) (t : TypeId) (x0 x1 x2 x3 x4 x5 x6 x7 a b c d e f h i : Value) :
    ∃ V, (((((((((w.alloc (.cells #[x0, x1, x2, x3, x4, x5, x6, x7] t)).setCell ⟨w.heap.size, 0, none⟩ a).setCell ⟨w.heap.size, 1, none⟩ b).setCell ⟨w.heap.size, 2, none⟩ c).setCell ⟨w.heap.size, 3, none⟩ d).setCell ⟨w.heap.size, 4, none⟩ e).setCell ⟨w.heap.size, 5, none⟩ f).setCell ⟨w.heap.size, 6, none⟩ h).setCell ⟨w.heap.size, 7, none⟩ i = V) ∧ w.alloc (.cells #[a, b, c, d, e, f, h, i] t) = V ∧ V.heap.size = w.heap.size + 1 ∧ Below w.heap.size w V ∧ V.heap[w.heap.size]? = some (.cells #[a, b, c, d, e, f, h, i] t (0, 0)) ∧ Ei V w.heap.size a b c d e f h i := by
  obtain ⟨V, h1, h2, h3, h4⟩ := blk_step w #[a, b, c, d, e, f, h, i] t
  refine ⟨V, ?_, h1, h2, h3, h4, ei_of h4⟩
  rw [← h1]
  simp [go_sem]

/-- The message m lies in the block g. -/
def MAt (w : World) (g : Nat) (m : Mw) : Prop := w.heap[g]? = some (.cells (mc m) 30 (0, 0))

theorem MAt.lt {w : World} {g : Nat} {m : Mw} (h : MAt w g m) : g < w.heap.size := blk_lt h
theorem MAt.below {w w' : World} {g : Nat} {m : Mw} (h : MAt w g m) (b : Below w.heap.size w w') : MAt w' g m := (b.block g h.lt).trans h
theorem MAt.under {w w' : World} {g B : Nat} {m : Mw} (h : MAt w g m) (b : Below B w w') (hg : g < B) : MAt w' g m := (b.block g hg).trans h
theorem MAt.ei {w : World} {g : Nat} {m : Mw} (h : MAt w g m) : Ei w g (.int .i64 m.k) (.int .i64 m.e) (.int .u8 m.r) (.int .i64 m.n) m.vs (.int .i64 m.f) (.int .i64 m.p) m.vc := ei_of h

/-- A message's block, made. -/
theorem newm (w : World) (m : Mw) :
    ∃ V, w.alloc (.cells #[.int .i64 m.k, .int .i64 m.e, .int .u8 m.r, .int .i64 m.n, m.vs, .int .i64 m.f, .int .i64 m.p, m.vc] 30) = V ∧ V.heap.size = w.heap.size + 1 ∧ Below w.heap.size w V ∧ MAt V w.heap.size m := by
  obtain ⟨V, h1, h2, h3, h4⟩ := blk_step w #[.int .i64 m.k, .int .i64 m.e, .int .u8 m.r, .int .i64 m.n, m.vs, .int .i64 m.f, .int .i64 m.p, m.vc] 30
  exact ⟨V, h1, h2, h3, h4⟩

/-- Whether two messages are the same. -/
def smM (a b : Mm.Msg) : Bool := (a.k == b.k) && ((a.e == b.e) && ((a.r == b.r) && ((a.n == b.n) && ((a.f == b.f) && ((a.p == b.p) && (decide (a.ss = b.ss) && sameV a.cs b.cs))))))

theorem smM_iff {a b : Mm.Msg} : smM a b = true ↔ a = b := by
  constructor
  · intro h
    simp only [smM, Bool.and_eq_true, beq_iff_eq, decide_eq_true_iff, sameV_iff] at h
    obtain ⟨h1, h2, h3, h4, h5, h6, h7, h8⟩ := h
    exact Mm.Msg.eq h1 h2 h3 h4 h7 h5 h6 h8
  · rintro rfl
    simp [smM, sameV_self]

theorem smM_self (a : Mm.Msg) : smM a a = true := smM_iff.2 rfl

theorem smM_no {a b : Mm.Msg} (h : a ≠ b) : smM a b = false := by
  cases hs : smM a b
  · rfl
  · exact absurd (smM_iff.1 hs) h

end Go.Proofs.Ytfnaeblbodfekaa

/- The contracts of the document's and the laws' comparison of lists of commits. -/
namespace Go.Proofs.Ytfnaeblbodfekaa
open Go.RowKit
set_option linter.unusedVariables false

end Go.Proofs.Ytfnaeblbodfekaa
