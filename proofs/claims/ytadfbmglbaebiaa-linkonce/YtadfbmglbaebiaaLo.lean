/- The memory of LinkOnce: a link, what was sent, what is over; what holds between them. -/
import Derived.Test.YtadfbmglbaebiaaLnl
namespace Go.Proofs.Ytadfbmglbaebiaa
open Go.RowKit Go.Shelf
set_option linter.unusedVariables false

def smallL (l : List Av) : Bool := l.all (fun a => decide (a.bs.length ≤ 40)) && decide (l.length ≤ 1200)

theorem smallL_len {l : List Av} (h : smallL l = true) : l.length ≤ 1200 ∧ ∀ a ∈ l, a.bs.length ≤ 40 := by
  unfold smallL at h
  rw [Bool.and_eq_true, List.all_eq_true] at h
  exact ⟨of_decide_eq_true h.2, fun a ha => of_decide_eq_true (h.1 a ha)⟩

set_option maxHeartbeats 1000000 in
theorem lsmall_any (v : Value) (l : List Av) (w : World) (h : IsLA w v l) (hl : l.length ≤ 140737488355328) : Calls Try.prog 14 #[v] w fun E w' => E = .returned (.bool (smallL l)) ∧ w = w' := by
  have H := hide h
  obtain ⟨ao, cap, hv, hcap, hcm⟩ := h.1.shape
  subst hv
  clear h
  go_enter Try.func14, Try.ntmps14
  go_wp2
  go_loopw [3] (fun iv wr => ∃ k : Nat, k ≤ l.length ∧ iv = .int .i64 k ∧ w = wr ∧ Hid ((l.take k).all (fun a => decide (a.bs.length ≤ 40)) = true)) (fun iv _ => l.length - (intOf iv).toNat)
  case atStart => exact ⟨0, by omega, rfl, rfl, hide (by simp)⟩
  case round =>
    obtain ⟨k, hk, rfl, rfl, HT⟩ := hrel
    by_cases hlt : k < l.length
    · obtain ⟨b, off, cq, hvx, _, _, hB, hcell⟩ := H.out.full (by omega)
      simp only [Value.slice.injEq, true_and] at hvx
      obtain ⟨rfl, rfl⟩ := hvx
      obtain ⟨a, ha⟩ : ∃ a, l[k]? = some a := ⟨l[k], by rw [List.getElem?_eq_getElem]⟩
      obtain ⟨_, _, e4⟩ := hcell k a ha
      obtain ⟨av, ac, hav, _, _⟩ := (H.out.2 a (List.mem_of_getElem? ha)).1.shape
      rw [hav] at e4
      have hlt' : (k : Int) < l.length := by omega
      have hk0 : (0 : Int) ≤ (k : Int) := by omega
      obtain ⟨hkl, hke⟩ := List.getElem?_eq_some_iff.1 ha
      by_cases hbig : a.bs.length ≤ 40
      · have hb1 : ¬ (40 : Int) < (a.bs.length : Int) := by omega
        have HT2 : Hid ((l.take (k + 1)).all (fun a => decide (a.bs.length ≤ 40)) = true) := hide (by
          rw [List.take_succ_eq_append_getElem hkl, List.all_append, HT.out, hke]
          simp [hbig])
        clear hcell ha hke hav
        go_wp2
        go_roundw
        case rel => exact ⟨k + 1, by omega, by go_num, trivial, HT2⟩
        case measure => simp [intOf]; omega
      · have hb1 : (40 : Int) < (a.bs.length : Int) := by omega
        have hs : smallL l = false := by
          unfold smallL
          rw [Bool.and_eq_false_iff]
          left
          rw [List.all_eq_false]
          exact ⟨a, List.mem_of_getElem? ha, by simpa using hbig⟩
        have HS := hide hs
        clear hcell ha hke hav hs
        go_wp2
        go_ret
        exact ⟨by rw [HS.out]; rfl, rfl⟩
    · have hlt' : ¬ (k : Int) < l.length := by omega
      have hs : smallL l = decide ((l.length : Int) ≤ 1200) := by
        unfold smallL
        have := HT.out
        rw [List.take_of_length_le (by omega)] at this
        rw [this, Bool.true_and]
        by_cases h1 : l.length ≤ 1200
        · rw [decide_eq_true h1, decide_eq_true (by omega)]
        · rw [decide_eq_false h1, decide_eq_false (by omega)]
      have HS := hide hs
      clear HT hs
      go_wp2
      go_ret
      exact ⟨by rw [HS.out]; rfl, rfl⟩

/-- Booleans in a row. -/
def boolc (b : Bool) : List Value := [.bool b]
theorem boolc_len (b : Bool) : (boolc b).length = 1 := rfl
theorem boolc_one (l : List Bool) : ∀ u ∈ gcells boolc l, u.oneCell' = true := by
  induction l with
  | nil => simp [gcells]
  | cons b l ih =>
    intro u hu
    rw [gcells, List.mem_append] at hu
    rcases hu with hu | hu
    · simp [boolc] at hu
      subst hu
      rfl
    · exact ih u hu

/-- The link, the letters that were sent, which of them are over; A: a block beside them. -/
structure OF (base p A : Nat) (w0 w : World) (st : Lm.Ls) (vS vO : Value) (ss : List Lw) (os : List Bool) (F : Nat → Prop) : Prop where
  lk : Lk false p F w st
  fge : ∀ g, F g → base ≤ g
  sent : OwnG letc 3 31 base w vS ss
  over : OwnG boolc 1 4 base w vO os
  nS : ∀ b, vS.ownBlock = some b → ¬ F b
  nO : ∀ b, vO.ownBlock = some b → ¬ F b
  nA : ¬ F A
  bel : Below base w0 w
  hb : base = w0.heap.size
  byt : ∀ r ∈ ss, Is .u8 w0 r.v r.bs

def OM (base p A : Nat) (w0 w : World) (st : Lm.Ls) (vS vO : Value) (ss : List Lw) (os : List Bool) : Prop := ∃ F, OF base p A w0 w st vS vO ss os F

section
variable {base p A : Nat} {w0 w w' : World} {st st' : Lm.Ls} {vS vO v' : Value} {ss : List Lw} {os : List Bool} {F : Nat → Prop}

theorem OF.size (h : OF base p A w0 w st vS vO ss os F) : base ≤ w.heap.size := by
  have := h.bel.size
  have := h.hb
  omega

theorem OM.below (h : OM base p A w0 w st vS vO ss os) (hb : Below w.heap.size w w') : OM base p A w0 w' st vS vO ss os := by
  obtain ⟨F, h⟩ := h
  exact ⟨F, h.lk.below hb, h.fge, h.sent.agree fun b hb' => hb.block b (h.sent.lt b hb').2, h.over.agree fun b hb' => hb.block b (h.over.lt b hb').2, h.nS, h.nO, h.nA, h.bel.trans (hb.mono h.size), h.hb, h.byt⟩

/-- A new block beside them. -/
theorem OM.beside (h : OM base p A w0 w st vS vO ss os) (hb : Below w.heap.size w w') : OM base p w.heap.size w0 w' st vS vO ss os := by
  obtain ⟨F, h⟩ := h
  exact ⟨F, h.lk.below hb, h.fge, h.sent.agree fun b hb' => hb.block b (h.sent.lt b hb').2, h.over.agree fun b hb' => hb.block b (h.over.lt b hb').2, h.nS, h.nO, fun hA => by have := h.lk.lt _ hA; omega, h.bel.trans (hb.mono h.size), h.hb, h.byt⟩

theorem OF.step (h : OF base p A w0 w st vS vO ss os F) (hA : A < w.heap.size) (s : LStep false p F w w' st') : OM base p A w0 w' st' vS vO ss os ∧ w'.heap[A]? = w.heap[A]? := by
  obtain ⟨F', k1, k2, k3⟩ := s
  have nn : ∀ g, g < w.heap.size → ¬ F g → ¬ F' g := fun g hg hn hF => by
    rcases k3 g hF with h1 | h1
    · exact hn h1
    · omega
  refine ⟨⟨F', k1, fun g hg => ?_, h.sent.agree fun b hb => k2.block b (h.sent.lt b hb).2 (h.nS b hb), h.over.agree fun b hb => k2.block b (h.over.lt b hb).2 (h.nO b hb), fun b hb => nn b (h.sent.lt b hb).2 (h.nS b hb), fun b hb => nn b (h.over.lt b hb).2 (h.nO b hb), nn A hA h.nA, h.bel.trans (k2.below h.fge h.size), h.hb, h.byt⟩, k2.block A hA h.nA⟩
  rcases k3 g hg with h1 | h1
  · exact h.fge g h1
  · have := h.size; omega

/-- A letter is noted. -/
theorem OM.addS (h : OM base p A w0 w st vS vO ss os) {w1 : World} (hb1 : Below w.heap.size w w1) {r : Lw} (hr : Is .u8 w0 r.v r.bs) (ho : OwnG letc 3 31 base w' v' (ss ++ [r])) (hg : w1.grownBy w' vS.ownBlock) (hat : v'.ownBlock = vS.ownBlock ∨ v'.ownBlock = some w1.heap.size) : OM base p A w0 w' st v' vO (ss ++ [r]) os := by
  obtain ⟨F, h⟩ := h
  have s1 := hb1.size
  have o1 : Out (fun g => vS.ownBlock = some g) w w' := (Out.of_below hb1).trans (G := fun g => vS.ownBlock = some g) (Out.of_grown hg fun g h => h) fun g h => .inl h
  refine ⟨F, h.lk.out o1 fun g hF e => h.nS g e hF, h.fge, ho, h.over.agree fun b hb => o1.block b (h.over.lt b hb).2 fun e => ?_, fun b hb hF => ?_, h.nO, h.nA, h.bel.trans (o1.below (fun g e => (h.sent.lt g e).1) h.size), h.hb, fun x hx => ?_⟩
  · obtain ⟨c1, q1⟩ := h.over.type hb
    obtain ⟨c2, q2⟩ := h.sent.type e
    rw [q1] at q2
    simp at q2
  · rcases hat with e | e
    · exact h.nS b (e ▸ hb) hF
    · rw [hb] at e
      simp at e
      have := h.lk.lt b hF
      omega
  · rcases List.mem_append.1 hx with hx | hx
    · exact h.byt x hx
    · simp only [List.mem_singleton] at hx
      exact hx ▸ hr

/-- Whether it is over is noted. -/
theorem OM.addO (h : OM base p A w0 w st vS vO ss os) {w1 : World} (hb1 : Below w.heap.size w w1) {o : Bool} (ho : OwnG boolc 1 4 base w' v' (os ++ [o])) (hg : w1.grownBy w' vO.ownBlock) (hat : v'.ownBlock = vO.ownBlock ∨ v'.ownBlock = some w1.heap.size) : OM base p A w0 w' st vS v' ss (os ++ [o]) := by
  obtain ⟨F, h⟩ := h
  have s1 := hb1.size
  have o1 : Out (fun g => vO.ownBlock = some g) w w' := (Out.of_below hb1).trans (G := fun g => vO.ownBlock = some g) (Out.of_grown hg fun g h => h) fun g h => .inl h
  refine ⟨F, h.lk.out o1 fun g hF e => h.nO g e hF, h.fge, h.sent.agree fun b hb => o1.block b (h.sent.lt b hb).2 fun e => ?_, ho, h.nS, fun b hb hF => ?_, h.nA, h.bel.trans (o1.below (fun g e => (h.over.lt g e).1) h.size), h.hb, h.byt⟩
  · obtain ⟨c1, q1⟩ := h.sent.type hb
    obtain ⟨c2, q2⟩ := h.over.type e
    rw [q1] at q2
    simp at q2
  · rcases hat with e | e
    · exact h.nO b (e ▸ hb) hF
    · rw [hb] at e
      simp at e
      have := h.lk.lt b hF
      omega

/-- It is over. -/
theorem OM.setO {g cap : Nat} {i : Nat} {x : Bool} (h : OM base p A w0 w st vS (.slice (some ⟨g, 0, none⟩) os.length cap) ss os) (hi : os[i]? = some x) : OM base p A w0 (w.setCell ⟨g, i, none⟩ (.bool true)) st vS (.slice (some ⟨g, 0, none⟩) os.length cap) ss (os.set i true) ∧ w.cell? ⟨g, i, none⟩ = some (.bool x) ∧ w.frozen? ⟨g, i, none⟩ = false := by
  obtain ⟨F, h⟩ := h
  obtain ⟨cs, hcs⟩ := h.over.type (g := g) rfl
  have o1 : Out (fun b => b = g) w (w.setCell ⟨g, i, none⟩ (.bool true)) := Out.of_grown (grown_setCell w ⟨g, i, none⟩ _) fun b hb => by simp at hb; exact hb.symm
  have hset := h.over.set boolc_len hi (j := 0) (u := .bool true) (b := true) (by decide) rfl
  have hcell := h.over.cells (show (Value.slice (some ⟨g, 0, none⟩) os.length cap).ownBlock = some g from rfl) (i * 1 + 0) _ (gcells_at boolc_len _ i x hi 0 _ rfl)
  simp only [Nat.mul_one, Nat.add_zero] at hset hcell
  rw [add_at, Nat.zero_add] at hcell
  refine ⟨⟨F, h.lk.out o1 fun b hF e => h.nO b (by rw [e]; rfl) hF, h.fge, h.sent.agree fun b hb => o1.block b (h.sent.lt b hb).2 fun e => ?_, hset, h.nS, h.nO, h.nA, h.bel.trans (o1.below (fun b e => by have := (h.over.lt g rfl).1; omega) h.size), h.hb, h.byt⟩, hcell, blk_froz hcs _⟩
  obtain ⟨c1, q1⟩ := h.sent.type hb
  rw [e, hcs] at q1
  simp at q1
end

/-- What was sent, what is over, what is in flight. -/
structure OR (st : Lm.Ls) (sent : List Lm.Lt) (os : List Bool) : Prop where
  ok : Lm.Ok st
  len : sent.length = st.last + 1
  lno : os.length = st.last + 1
  inn : ∀ x ∈ st.fl, sent[x.n.toNat]? = some x
  ovr : ∀ i, i < os.length → (os[i]? = some false ↔ ∃ x ∈ st.fl, x.n = (i : Int))

theorem or_start : OR Lm.new [Lm.zero] [true] := ⟨Lm.ok_new, rfl, rfl, by simp [Lm.new], fun i hi => by
  have : i = 0 := by simpa using hi
  subst this
  simp [Lm.new]⟩

theorem or_put {st : Lm.Ls} {sent : List Lm.Lt} {os : List Bool} (h : OR st sent os) {to : Int} {bs : List Int} (ht : to = 0 ∨ to = 1) (hb : bs.length ≤ 40) :
    ((Lm.put st to bs).1.2 = 0 ∧ (Lm.put st to bs).1.1 = sent.length ∧ OR (Lm.put st to bs).2 (sent ++ [⟨sent.length, to, bs⟩]) (os ++ [false])) ∨ ((Lm.put st to bs).1.2 = 3 ∧ (Lm.put st to bs).2 = st) := by
  have hok := Lm.ok_put h.ok ht hb
  unfold Lm.put at hok ⊢
  split
  · exact .inr ⟨rfl, rfl⟩
  · rename_i hfull
    rw [if_neg hfull] at hok
    have e : ((sent.length : Nat) : Int) = (st.last : Int) + 1 := by rw [h.len]; simp
    refine .inl ⟨rfl, e.symm, hok, by simp [h.len], by simp [h.lno], fun x hx => ?_, fun i hi => ?_⟩
    · simp only [List.mem_append, List.mem_singleton] at hx
      rcases hx with hx | rfl
      · have h1 := h.inn x hx
        rw [List.getElem?_append_left (List.getElem?_eq_some_iff.1 h1).1]
        exact h1
      · have : ((st.last : Int) + 1).toNat = sent.length := by rw [h.len]; omega
        simp only [this]
        rw [List.getElem?_append_right (Nat.le_refl _), Nat.sub_self, e]
        rfl
    · simp only [List.length_append, List.length_singleton] at hi
      by_cases hlt : i < os.length
      · rw [List.getElem?_append_left hlt, h.ovr i hlt]
        constructor
        · rintro ⟨x, hx, hn⟩
          exact ⟨x, by simp [hx], hn⟩
        · rintro ⟨x, hx, hn⟩
          simp only [List.mem_append, List.mem_singleton] at hx
          rcases hx with hx | rfl
          · exact ⟨x, hx, hn⟩
          · have := h.lno
            simp only at hn
            omega
      · have hi' : i = os.length := by omega
        subst hi'
        rw [List.getElem?_append_right (Nat.le_refl _), Nat.sub_self]
        refine ⟨fun _ => ⟨⟨(st.last : Int) + 1, to, bs⟩, by simp, by have := h.lno; simp only; omega⟩, fun _ => rfl⟩

/-- Is a number in flight? -/
def inF (sent : List Lm.Lt) (os : List Bool) (n : Int) : Prop := 1 ≤ n ∧ n < sent.length ∧ os[n.toNat]? = some false

theorem or_at {st : Lm.Ls} {sent : List Lm.Lt} {os : List Bool} (h : OR st sent os) {n : Int} {x : Lm.Lt} (hx : st.fl[Lm.pl st.fl n]? = some x) : x.n = n ∧ inF sent os n ∧ sent[n.toNat]? = some x ∧ (x.to = 0 ∨ x.to = 1) ∧ x.bs.length ≤ 40 := by
  have hn := Lm.pl_at _ _ _ hx
  have hm := List.mem_of_getElem? hx
  obtain ⟨h1, h2, h3, h4⟩ := h.ok.each x hm
  have h5 := h.inn x hm
  rw [hn] at h2 h3 h5
  have hl := h.len
  have ho := h.lno
  exact ⟨hn, ⟨h2, by omega, (h.ovr n.toNat (by omega)).2 ⟨x, hm, by omega⟩⟩, h5, h1, h4⟩

theorem or_no {st : Lm.Ls} {sent : List Lm.Lt} {os : List Bool} (h : OR st sent os) {n : Int} (hx : st.fl[Lm.pl st.fl n]? = none) : ¬ inF sent os n := by
  rintro ⟨h1, h2, h3⟩
  obtain ⟨x, hm, hn⟩ := (h.ovr n.toNat (List.getElem?_eq_some_iff.1 h3).1).1 h3
  exact Lm.pl_miss _ _ hx x hm (by omega)

theorem or_del {st : Lm.Ls} {sent : List Lm.Lt} {os : List Bool} (h : OR st sent os) {n : Int} {x : Lm.Lt} (hx : st.fl[Lm.pl st.fl n]? = some x) : OR ⟨st.last, st.fl.eraseIdx (Lm.pl st.fl n)⟩ sent (os.set n.toNat true) := by
  have hok := Lm.ok_del h.ok n
  unfold Lm.del at hok
  rw [hx] at hok
  have hn := Lm.pl_at _ _ _ hx
  have hs := List.eraseIdx_sublist st.fl (Lm.pl st.fl n)
  refine ⟨hok, h.len, by simp [h.lno], fun y hy => h.inn y (hs.subset hy), fun i hi => ?_⟩
  rw [List.length_set] at hi
  have hup := h.ok.up
  have hpl := (List.getElem?_eq_some_iff.1 hx).1
  obtain ⟨q1, q2, q3, q4⟩ := h.ok.each x (List.mem_of_getElem? hx)
  by_cases e : n.toNat = i
  · subst e
    rw [List.getElem?_set_self (by omega)]
    constructor
    · intro h1; simp at h1
    · rintro ⟨y, hy, hyn⟩
      exfalso
      obtain ⟨j, hj⟩ := List.getElem?_of_mem hy
      rw [List.getElem?_eraseIdx] at hj
      have hne : ∀ k, k ≠ Lm.pl st.fl n → st.fl[k]? = some y → False := fun k hk hky => by
        obtain ⟨k1, k2⟩ := List.getElem?_eq_some_iff.1 hky
        obtain ⟨x1, x2⟩ := List.getElem?_eq_some_iff.1 hx
        have hpw := List.pairwise_iff_getElem.1 hup
        rcases Nat.lt_or_gt_of_ne hk with hlt | hlt
        · have := hpw k _ k1 x1 hlt
          rw [k2, x2] at this
          omega
        · have := hpw _ k x1 k1 hlt
          rw [k2, x2] at this
          omega
      split at hj
      · rename_i hlt
        exact hne j (by omega) hj
      · rename_i hlt
        exact hne (j + 1) (by omega) hj
  · rw [List.getElem?_set_ne e, h.ovr i hi]
    constructor
    · rintro ⟨y, hy, hyn⟩
      refine ⟨y, ?_, hyn⟩
      obtain ⟨j, hj⟩ := List.getElem?_of_mem hy
      have hjp : j ≠ Lm.pl st.fl n := fun e2 => by
        rw [e2, hx] at hj
        cases hj
        omega
      by_cases hlt : j < Lm.pl st.fl n
      · exact List.mem_of_getElem? (i := j) (by rw [List.getElem?_eraseIdx, if_pos hlt]; exact hj)
      · exact List.mem_of_getElem? (i := j - 1) (by rw [List.getElem?_eraseIdx, if_neg (by omega), show j - 1 + 1 = j by omega]; exact hj)
    · rintro ⟨y, hy, hyn⟩
      exact ⟨y, hs.subset hy, hyn⟩

end Go.Proofs.Ytadfbmglbaebiaa
