/- Package script (layer 25): an act's text. -/
import Derived.Test.YtdlogcdpapknaaaGreatDoorSxr
import Derived.Test.YtdlogcdpapknaaaGreatDoorTxt
import Derived.Lib.Join
namespace Go.Proofs.YtdlogcdpapknaaaGreatDoor
open Go.RowKit
set_option linter.unusedVariables false
set_option maxRecDepth 100000

/-- A word's cell. -/
def fsc (s : ByteArray) : List Value := [.string s]
theorem fsc_len (s : ByteArray) : (fsc s).length = 1 := rfl
theorem fsc_one (l : List ByteArray) : ∀ u ∈ gcells fsc l, u.oneCell' = true := by
  induction l with
  | nil => intro u hu; simp [gcells] at hu
  | cons a r ih =>
    intro u hu
    simp only [gcells, fsc, List.cons_append, List.nil_append, List.mem_cons] at hu
    rcases hu with rfl | hu
    · rfl
    · exact ih u hu
theorem Tryz.info9 : (Tryz.prog.info? 9).map (fun i => (i.zero, i.size, i.bytes)) = some (some (.string ⟨#[]⟩), 1, 16) := by kernel_rfl

theorem row_other {α : Type} {f : α → List Value} {k e base g : Nat} {w w' : World} {v : Value} {l : List α} {cs : Array Value} {t : TypeId} (own : OwnG f k e base w v l) (hg : w.grownBy w' v.ownBlock) (h : w.heap[g]? = some (.cells cs t (0, 0))) (ht : t ≠ e) : w'.heap[g]? = some (.cells cs t (0, 0)) :=
  (hg.block g (blk_lt h) fun e1 => by
    obtain ⟨c2, h2⟩ := own.type (g := g) e1.symm
    rw [h] at h2
    cases h2
    exact ht rfl).trans h
theorem row_below {α : Type} {f : α → List Value} {k e base n : Nat} {w0 w w' : World} {v : Value} {l : List α} (own : OwnG f k e base w v l) (hg : w.grownBy w' v.ownBlock) (hb : Below n w0 w) (h0 : n ≤ w.heap.size) (hn : n ≤ base) : Below n w0 w' :=
  hb.grown hg h0 fun j hj => Nat.le_trans hn (own.lt j hj).1
theorem OwnG.below {α : Type} {f : α → List Value} {k e base : Nat} {w w' : World} {v : Value} {l : List α} (h : OwnG f k e base w v l) (hb : Below w.heap.size w w') : OwnG f k e base w' v l :=
  h.agree fun b hv => hb.block b (h.lt b hv).2

theorem jn_join : ∀ ws : List (List UInt8), Lib.join ws [32] = Sct.jn ws
  | [] => rfl
  | [w] => Go.Lib.join_one _ _
  | w :: x :: r => by
    have ih := jn_join (x :: r)
    show _ = w ++ 32 :: Sct.jn (x :: r)
    rw [← ih]
    simp [Go.Lib.join, List.intercalate, List.intersperse]

theorem jn_len : ∀ ws : List (List UInt8), (∀ w ∈ ws, w.length ≤ 200) → (Sct.jn ws).length ≤ 201 * ws.length
  | [], _ => by simp [Sct.jn]
  | [w], h => by
    have := h w (by simp)
    show w.length ≤ 201 * 1
    omega
  | w :: x :: r, h => by
    have h1 := h w (by simp)
    have h2 := jn_len (x :: r) fun v hv => h v (by simp [hv])
    show (w ++ 32 :: Sct.jn (x :: r)).length ≤ _
    simp only [List.length_append, List.length_cons] at h2 ⊢
    omega

theorem opw_len : ∀ l : List Bm.Ov, (∀ o ∈ l, o.c = 0) → (Sct.opw l).length ≤ 3 * l.length ∧ ∀ w ∈ Sct.opw l, w.length ≤ 200
  | [], _ => by simp [Sct.opw]
  | o :: r, h => by
    obtain ⟨i1, i2⟩ := opw_len r fun q hq => h q (by simp [hq])
    have hc : Om.chk o.p o.kl o.vl = 0 := h o (by simp)
    obtain ⟨_, k1, k2, _⟩ := Om.chk_ok' hc
    have w1 := Wm.wd_le o.kl
    have w2 := Wm.wd_le o.vl
    cases hp : o.p
    · simp only [Sct.opw, hp, Bool.false_eq_true, if_false]
      refine ⟨by simp; omega, fun w hw => ?_⟩
      rcases List.mem_append.1 hw with hw | hw
      · simp only [List.mem_cons, List.not_mem_nil, or_false] at hw
        rcases hw with rfl | rfl
        · decide
        · omega
      · exact i2 w hw
    · simp only [Sct.opw, hp, if_true]
      refine ⟨by simp; omega, fun w hw => ?_⟩
      rcases List.mem_append.1 hw with hw | hw
      · simp only [List.mem_cons, List.not_mem_nil, or_false] at hw
        rcases hw with rfl | rfl | rfl
        · decide
        · omega
        · omega
      · exact i2 w hw

/-- An act's text is short. -/
theorem txt_len {a : Sct.Av} (h : Sct.Ok a) : (Sct.txt a).length ≤ 40 ∧ ∀ w ∈ Sct.txt a, w.length ≤ 200 := by
  have d1 := (Sct.dg_all (n := a.u.toNat) (by have := h.u; omega)).2.2.2.1
  have d2 := (Sct.dg_all (n := a.n.toNat) (by have := h.n; omega)).2.2.2.1
  have d3 := (Sct.dg_all (n := a.t.toNat) (by have := h.t; omega)).2.2.2.1
  have hn : (Sct.nm a.k).length ≤ 200 := by
    unfold Sct.nm
    repeat' split
    all_goals decide
  have hk := h.key
  have ho := h.ops
  have one : ∀ (b : Bool) (x : List UInt8), (b = true → x.length ≤ 200) → (if b then [x] else []).length ≤ 1 ∧ ∀ w ∈ (if b then [x] else []), w.length ≤ 200 := fun b x hx => by
    cases b
    · simp
    · simp [hx]
  have o1 := one (Sct.hu a.k) (Sct.dg a.u.toNat) fun _ => by omega
  have o2 := one (Sct.hk a.k) (Wm.wd a.key.data.toList) fun e => by
    rw [e] at hk
    obtain ⟨_, k1, _⟩ := Om.chk_ok' hk
    have := Wm.wd_le a.key.data.toList
    omega
  have o3 := one (Sct.hn a.k) (Sct.dg a.n.toNat) fun _ => by omega
  have o4 := one (Sct.ht a.k) (Sct.dg a.t.toNat) fun _ => by omega
  have o5 : (if Sct.ho a.k then Sct.opw a.ops else []).length ≤ 24 ∧ ∀ w ∈ (if Sct.ho a.k then Sct.opw a.ops else []), w.length ≤ 200 := by
    cases e : Sct.ho a.k
    · simp
    · rw [e] at ho
      obtain ⟨_, h8, hc⟩ := Bm.chkL_zero ho
      have := opw_len a.ops hc
      simp only [if_true]
      exact ⟨by omega, this.2⟩
  unfold Sct.txt Sct.tail
  constructor
  · simp only [List.length_cons, List.length_append]
    omega
  · intro w hw
    simp only [List.mem_cons, List.mem_append] at hw
    rcases hw with rfl | hw | hw | hw | hw | hw
    · exact hn
    · exact o1.2 w hw
    · exact o2.2 w hw
    · exact o3.2 w hw
    · exact o4.2 w hw
    · exact o5.2 w hw

/-- What textOf gives back. -/
def TRet (w : World) (a : Sct.Av) (E : Ending) (w' : World) : Prop := E = .returned (.string ⟨(Sct.jn (Sct.txt a)).toArray⟩) ∧ Below w.heap.size w w'

theorem txd_words {o : Bm.Ov} (h : o.c = 0) : txd o.p o.kl o.vl = Sct.jn (Sct.opw [o]) := by
  rw [txd_ok h]
  unfold txt
  cases hp : o.p <;> simp [Sct.opw, hp, Sct.jn]

theorem jn_app : ∀ (T G : List (List UInt8)), T ≠ [] → G ≠ [] → Sct.jn (T ++ G) = Sct.jn T ++ 32 :: Sct.jn G
  | [], _, h, _ => absurd rfl h
  | [w], g :: r, _, _ => rfl
  | w :: x :: r, G, _, hg => by
    have := jn_app (x :: r) G (by simp) hg
    show w ++ 32 :: Sct.jn (x :: r ++ G) = (w ++ 32 :: Sct.jn (x :: r)) ++ 32 :: Sct.jn G
    rw [this]
    simp
  | [_], [], _, h => absurd rfl h

/-- The words that stand, and what they are joined to. -/
def JnS (ws : List ByteArray) (T : List (List UInt8)) : Prop := ws ≠ [] ∧ T ≠ [] ∧ Sct.jn (wl ws) = Sct.jn T
theorem JnS.add {ws : List ByteArray} {T G : List (List UInt8)} {s : ByteArray} (h : JnS ws T) (hg : G ≠ []) (hs : s.data.toList = Sct.jn G) : JnS (ws ++ [s]) (T ++ G) := by
  obtain ⟨h1, h2, h3⟩ := h
  refine ⟨by simp, by simp [h2], ?_⟩
  have hw : wl ws ≠ [] := by simpa [wl] using h1
  rw [jn_app _ _ h2 hg, ← h3, ← hs]
  have : wl (ws ++ [s]) = wl ws ++ [s.data.toList] := by simp [wl]
  rw [this, Sct.jn_snoc _ _ hw]
theorem jnS_one (k : Nat) (h : k ≠ 0) : JnS [nmA k] [Sct.nm k] := by
  refine ⟨by simp, by simp, ?_⟩
  show (nmA k).data.toList = Sct.nm k
  rw [nmA_l, if_neg h]
theorem itoa_word {x : Int} (h : 0 ≤ x ∧ x ≤ 999999999) : (⟨(Lib.itoa x).toArray⟩ : ByteArray).data.toList = Sct.jn [Sct.dg x.toNat] := by
  show Lib.itoa x = Sct.dg x.toNat
  rw [← itoa_dg (n := x.toNat) (by omega), show ((x.toNat : Nat) : Int) = x by omega]
theorem wd_word (k : ByteArray) : (⟨(Wm.wd k.data.toList).toArray⟩ : ByteArray).data.toList = Sct.jn [Wm.wd k.data.toList] := rfl
theorem opw_ne (o : Bm.Ov) : Sct.opw [o] ≠ [] := by
  simp only [Sct.opw]
  split <;> simp

theorem join_any (bk c n : Nat) (ws : List ByteArray) (T : List (List UInt8)) (w : World) (base : Nat) (own : OwnG fsc 1 9 base w (.slice (some ⟨bk, 0, none⟩) n c) ws) (hn : n = ws.length) (h : JnS ws T) (h1 : T.length ≤ 40) (h2 : ∀ x ∈ T, x.length ≤ 200) (hc : ws.length ≤ c) (hN : ws.length ≤ 1000) :
    Calls Tryz.prog 61 #[.slice (some ⟨bk, 0, none⟩) n c, .string ⟨#[32]⟩] w fun E w' => E = .returned (.string ⟨(Sct.jn T).toArray⟩) ∧ Below w.heap.size w w' := by
  subst hn
  have hj : Lib.join (ws.map (·.data.toList)) (⟨#[32]⟩ : ByteArray).data.toList = Sct.jn T := (jn_join (wl ws)).trans h.2.2
  have hl := jn_len T h2
  have hp : 0 < ws.length := List.length_pos_iff.2 h.1
  have hbk := own.lt bk rfl
  refine (Tryz.strings_Join bk 0 c ws ⟨#[32]⟩ w (fun j x hx => ?_) hbk.2 (by omega) hc (by rw [hj]; omega)).mono ?_
  · have := own.at fsc_len (i := j) (a := x) hx (j := 0) (u := .string x) rfl
    rw [Nat.zero_add]
    simpa using this
  · rintro E w' ⟨rfl, hb⟩
    rw [hj]
    exact ⟨rfl, hb⟩

theorem byt_kk {a : Sct.Av} (h : if Sct.hk a.k then Om.chk false a.key.data.toList [] = 0 else a.key = ⟨#[]⟩) : a.key.size ≤ 16 := by
  rw [Lib.size_eq]
  split at h
  · have := (Om.chk_ok' h).2.1
    exact this
  · rw [h]; decide

set_option maxHeartbeats 4000000 in
theorem textOf_2 (a : Sct.Av) (v : Value) (w : World) (hv : Vs w) (hok : Sct.Ok a) (h : IsO w v a.ops) (hk : a.k = 2) : Calls Tryz.prog 28 #[acv a v] w (TRet w a) := by
  obtain ⟨oa, oc, rfl, _, _⟩ := h.shape
  obtain ⟨w1, hw1, s1, b1, ab⟩ := blk_step w #[.int .i64 a.k, .int .i64 a.u, .int .i64 a.n, .int .i64 a.t, .string a.key, .slice oa a.ops.length oc] 24
  have V0 := hide hv
  have V1 := hv.below b1
  have N1 : w1.cell? ⟨0, 2, none⟩ = some (.string (nmA 2)) := V1.nms 2 (by omega)
  obtain ⟨w2, hw2, s2, b2, own⟩ := rows_step fsc 1 fsc_len 9 w1 #[.string (nmA 2)] 1 [nmA 2] rfl rfl (by simp [maxLen])
  have ab2 := (b2.block w.heap.size (by omega)).trans ab
  rw [hk] at ab ab2 hw1
  have B2 := b1.trans (b2.mono (by omega))
  have JN := hide (jnS_one 2 (by decide))
  have OK := hide hok
  have HK := hide hk
  have V2 := hide (V1.below b2)
  have TL := hide (txt_len hok)
  obtain ⟨u0, u1⟩ := hok.u
  obtain ⟨n0, n1⟩ := hok.n
  obtain ⟨t0, t1⟩ := hok.t
  have hky := hide hok.key
  have hop := hide hok.ops
  have HO := hide h
  rw [s1] at own
  have a0 := blk_cell ab 0 rfl
  have a02 := blk_cell ab2 0 rfl
  unfold acv acc
  rw [hk]
  clear hok h hk hv V1 b1 b2
  go_enter Tryz.func28, Tryz.ntmps28
  go_wp2_with fail
  refine (shapeOf_any 2 w2 (by omega)).mono ?_
  rintro E w3 ⟨rfl, b3⟩
  rw [show shV 2 = .agg #[.int .i64 1, .int .i64 0, .int .i64 0, .bool true, .bool false] by rfl]
  obtain ⟨w4, hw4, s4, b4, sb⟩ := blk_step w3 #[.int .i64 1, .int .i64 0, .int .i64 0, .bool true, .bool false] 89
  have b24 := b3.trans (b4.mono b3.size)
  have g3 := b3.size
  have ab4 := (b24.block w.heap.size (by omega)).trans ab2
  have own4 := own.below b24
  have B4 := B2.trans (b24.mono (by omega))
  have V4 := hide (V2.out.below b24)
  have p0 := blk_froz sb 0; have p1 := blk_froz sb 1; have p2 := blk_froz sb 2; have p3 := blk_froz sb 3; have p4 := blk_froz sb 4
  have d0 := blk_cell sb 0 rfl; have d1 := blk_cell sb 1 rfl; have d2 := blk_cell sb 2 rfl; have d3 := blk_cell sb 3 rfl; have d4 := blk_cell sb 4 rfl
  have x0 := set_same sb (j := 0) (u := .int .i64 1) rfl; have x1 := set_same sb (j := 1) (u := .int .i64 0) rfl; have x2 := set_same sb (j := 2) (u := .int .i64 0) rfl; have x3 := set_same sb (j := 3) (u := .bool true) rfl; have x4 := set_same sb (j := 4) (u := .bool false) rfl
  have A4 := sx_of ab4
  obtain ⟨c0, c1, c2, c3, c4, c5⟩ := A4
  clear a0 a02 N1 ab ab2 own B2 b3 b4 b24
  go_wp2_with fail
  refine (itoa_any a.u w4 (by omega) (by omega) V4.out).mono ?_
  rintro E y5 ⟨rfl, b5⟩
  obtain ⟨e5, he5⟩ : ∃ e, (⟨(Lib.itoa a.u).toArray⟩ : ByteArray) = e := ⟨_, rfl⟩
  rw [he5]
  have JN5 := hide (show JnS ([nmA 2] ++ [e5]) ([Sct.nm (2 : Nat)] ++ [Sct.dg a.u.toNat]) from JN.out.add (by simp) (by rw [← he5]; exact itoa_word (by omega)))
  clear he5
  obtain ⟨z5, hz5, t5, q5, own5a⟩ := rows_step fsc 1 fsc_len 9 y5 #[.string e5] 1 [e5] rfl rfl (by simp [maxLen])
  have own5b := (own4.below b5).below q5
  have b5' := b5.trans (q5.mono b5.size)
  have ab5a := (b5'.block _ (blk_lt ab4)).trans ab4
  have sb5a := (b5'.block _ (blk_lt sb)).trans sb
  have B5a := B4.trans (b5'.mono B4.size)
  have o5s := B4.size
  have o5t := b5.size
  go_wp2_with (at_builtin; refine wpList_append_rows fsc 1 16 fsc_len (by decide) (by decide) (.string ⟨#[]⟩) rfl rfl (.tmp 20) (.tmp 24) 29 rfl 9 (w.heap.size + 1) Tryz.underlying29 Tryz.info9 _ [nmA 2] rfl own5b _ [e5] rfl own5a.row (fsc_one _) (by simp) (by omega) ?_)
  intro v5 w5 own5 hg5
  have ab5 := row_other own5b hg5 ab5a (by decide)
  have sb5 := row_other own5b hg5 sb5a (by decide)
  have B5 := row_below own5b hg5 B5a B5a.size (by omega)
  have V5 := hide (V0.out.below B5)
  obtain ⟨g5, k5, hv5, r5, _, _⟩ := own5.form (by simp)
  replace hv5 : v5 = .slice (some ⟨g5, 0, none⟩) 2 k5 := hv5
  replace r5 : 2 ≤ k5 := r5
  subst hv5
  have D5 := sx_of ab5
  clear c0 c1 c2 c3 c4 c5 d0 d1 d2 d3 d4
  obtain ⟨c0, c1, c2, c3, c4, c5⟩ := D5
  have d0 := blk_cell sb5 0 rfl; have d1 := blk_cell sb5 1 rfl; have d2 := blk_cell sb5 2 rfl; have d3 := blk_cell sb5 3 rfl; have d4 := blk_cell sb5 4 rfl
  clear own5b own5a ab5a sb5a B5a hg5 b5 b5' q5 ab4 sb own4 B4
  go_wp2_with fail
  have hks6 := byt_kk hky.out
  refine (word_any a.key w5 (by omega)).mono ?_
  rintro E y6 ⟨rfl, b6⟩
  obtain ⟨e6, he6⟩ : ∃ e, (⟨(Wm.wd a.key.data.toList).toArray⟩ : ByteArray) = e := ⟨_, rfl⟩
  rw [he6]
  have JN6 := hide (show JnS (([nmA 2] ++ [e5]) ++ [e6]) (([Sct.nm (2 : Nat)] ++ [Sct.dg a.u.toNat]) ++ [Wm.wd a.key.data.toList]) from JN5.out.add (by simp) (by rw [← he6]; exact wd_word _))
  clear he6
  obtain ⟨z6, hz6, t6, q6, own6a⟩ := rows_step fsc 1 fsc_len 9 y6 #[.string e6] 1 [e6] rfl rfl (by simp [maxLen])
  have own6b := (own5.below b6).below q6
  have b6' := b6.trans (q6.mono b6.size)
  have ab6a := (b6'.block _ (blk_lt ab5)).trans ab5
  have sb6a := (b6'.block _ (blk_lt sb5)).trans sb5
  have B6a := B5.trans (b6'.mono B5.size)
  have o6s := B5.size
  have o6t := b6.size
  go_wp2_with (at_builtin; refine wpList_append_rows fsc 1 16 fsc_len (by decide) (by decide) (.string ⟨#[]⟩) rfl rfl (.tmp 46) (.tmp 50) 29 rfl 9 (w.heap.size + 1) Tryz.underlying29 Tryz.info9 _ ([nmA 2] ++ [e5]) rfl own6b _ [e6] rfl own6a.row (fsc_one _) (by simp) (by omega) ?_)
  intro v6 w6 own6 hg6
  have ab6 := row_other own6b hg6 ab6a (by decide)
  have sb6 := row_other own6b hg6 sb6a (by decide)
  have B6 := row_below own6b hg6 B6a B6a.size (by omega)
  have V6 := hide (V0.out.below B6)
  obtain ⟨g6, k6, hv6, r6, _, _⟩ := own6.form (by simp)
  replace hv6 : v6 = .slice (some ⟨g6, 0, none⟩) 3 k6 := hv6
  replace r6 : 3 ≤ k6 := r6
  subst hv6
  have D6 := sx_of ab6
  clear c0 c1 c2 c3 c4 c5 d0 d1 d2 d3 d4
  obtain ⟨c0, c1, c2, c3, c4, c5⟩ := D6
  have d0 := blk_cell sb6 0 rfl; have d1 := blk_cell sb6 1 rfl; have d2 := blk_cell sb6 2 rfl; have d3 := blk_cell sb6 3 rfl; have d4 := blk_cell sb6 4 rfl
  clear own6b own6a ab6a sb6a B6a hg6 b6 b6' q6 ab5 sb5 own5 B5
  have hz : a.ops = [] := by
    have := hop.out
    rw [show Sct.ho a.k = false by rw [HK.out]; decide] at this
    exact this
  have hl0 : (a.ops.length : Int) = 0 := by rw [hz]; rfl
  have TX : Hid (Sct.txt a = (([Sct.nm (2 : Nat)] ++ [Sct.dg a.u.toNat]) ++ [Wm.wd a.key.data.toList])) := hide (by
    unfold Sct.txt Sct.tail
    rw [HK.out, hz]
    rfl)
  clear hz
  go_wp2
  refine wp_loop_rounds 1 ?_
  rw [rounds_succ]
  go_wp2_with fail
  refine (join_any g6 k6 _ (([nmA 2] ++ [e5]) ++ [e6]) (([Sct.nm (2 : Nat)] ++ [Sct.dg a.u.toNat]) ++ [Wm.wd a.key.data.toList]) w6 _ own6 (by rfl) JN6.out (by rw [← TX.out]; exact TL.out.1) (by rw [← TX.out]; exact TL.out.2) r6 (by simp)).mono ?_
  rintro E wz ⟨rfl, bz⟩
  have TT := hide (show TRet w a (.returned (.string ⟨(Sct.jn (([Sct.nm (2 : Nat)] ++ [Sct.dg a.u.toNat]) ++ [Wm.wd a.key.data.toList])).toArray⟩)) wz from ⟨by rw [TX.out], B6.trans (bz.mono B6.size)⟩)
  clear bz
  go_wp2
  go_ret
  exact TT.out

set_option maxHeartbeats 4000000 in
theorem textOf_3 (a : Sct.Av) (v : Value) (w : World) (hv : Vs w) (hok : Sct.Ok a) (h : IsO w v a.ops) (hk : a.k = 3) : Calls Tryz.prog 28 #[acv a v] w (TRet w a) := by
  obtain ⟨oa, oc, rfl, _, _⟩ := h.shape
  obtain ⟨w1, hw1, s1, b1, ab⟩ := blk_step w #[.int .i64 a.k, .int .i64 a.u, .int .i64 a.n, .int .i64 a.t, .string a.key, .slice oa a.ops.length oc] 24
  have V0 := hide hv
  have V1 := hv.below b1
  have N1 : w1.cell? ⟨0, 3, none⟩ = some (.string (nmA 3)) := V1.nms 3 (by omega)
  obtain ⟨w2, hw2, s2, b2, own⟩ := rows_step fsc 1 fsc_len 9 w1 #[.string (nmA 3)] 1 [nmA 3] rfl rfl (by simp [maxLen])
  have ab2 := (b2.block w.heap.size (by omega)).trans ab
  rw [hk] at ab ab2 hw1
  have B2 := b1.trans (b2.mono (by omega))
  have JN := hide (jnS_one 3 (by decide))
  have OK := hide hok
  have HK := hide hk
  have V2 := hide (V1.below b2)
  have TL := hide (txt_len hok)
  obtain ⟨u0, u1⟩ := hok.u
  obtain ⟨n0, n1⟩ := hok.n
  obtain ⟨t0, t1⟩ := hok.t
  have hky := hide hok.key
  have hop := hide hok.ops
  have HO := hide h
  rw [s1] at own
  have a0 := blk_cell ab 0 rfl
  have a02 := blk_cell ab2 0 rfl
  unfold acv acc
  rw [hk]
  clear hok h hk hv V1 b1 b2
  go_enter Tryz.func28, Tryz.ntmps28
  go_wp2_with fail
  refine (shapeOf_any 3 w2 (by omega)).mono ?_
  rintro E w3 ⟨rfl, b3⟩
  rw [show shV 3 = .agg #[.int .i64 1, .int .i64 0, .int .i64 0, .bool false, .bool false] by rfl]
  obtain ⟨w4, hw4, s4, b4, sb⟩ := blk_step w3 #[.int .i64 1, .int .i64 0, .int .i64 0, .bool false, .bool false] 89
  have b24 := b3.trans (b4.mono b3.size)
  have g3 := b3.size
  have ab4 := (b24.block w.heap.size (by omega)).trans ab2
  have own4 := own.below b24
  have B4 := B2.trans (b24.mono (by omega))
  have V4 := hide (V2.out.below b24)
  have p0 := blk_froz sb 0; have p1 := blk_froz sb 1; have p2 := blk_froz sb 2; have p3 := blk_froz sb 3; have p4 := blk_froz sb 4
  have d0 := blk_cell sb 0 rfl; have d1 := blk_cell sb 1 rfl; have d2 := blk_cell sb 2 rfl; have d3 := blk_cell sb 3 rfl; have d4 := blk_cell sb 4 rfl
  have x0 := set_same sb (j := 0) (u := .int .i64 1) rfl; have x1 := set_same sb (j := 1) (u := .int .i64 0) rfl; have x2 := set_same sb (j := 2) (u := .int .i64 0) rfl; have x3 := set_same sb (j := 3) (u := .bool false) rfl; have x4 := set_same sb (j := 4) (u := .bool false) rfl
  have A4 := sx_of ab4
  obtain ⟨c0, c1, c2, c3, c4, c5⟩ := A4
  clear a0 a02 N1 ab ab2 own B2 b3 b4 b24
  go_wp2_with fail
  refine (itoa_any a.u w4 (by omega) (by omega) V4.out).mono ?_
  rintro E y5 ⟨rfl, b5⟩
  obtain ⟨e5, he5⟩ : ∃ e, (⟨(Lib.itoa a.u).toArray⟩ : ByteArray) = e := ⟨_, rfl⟩
  rw [he5]
  have JN5 := hide (show JnS ([nmA 3] ++ [e5]) ([Sct.nm (3 : Nat)] ++ [Sct.dg a.u.toNat]) from JN.out.add (by simp) (by rw [← he5]; exact itoa_word (by omega)))
  clear he5
  obtain ⟨z5, hz5, t5, q5, own5a⟩ := rows_step fsc 1 fsc_len 9 y5 #[.string e5] 1 [e5] rfl rfl (by simp [maxLen])
  have own5b := (own4.below b5).below q5
  have b5' := b5.trans (q5.mono b5.size)
  have ab5a := (b5'.block _ (blk_lt ab4)).trans ab4
  have sb5a := (b5'.block _ (blk_lt sb)).trans sb
  have B5a := B4.trans (b5'.mono B4.size)
  have o5s := B4.size
  have o5t := b5.size
  go_wp2_with (at_builtin; refine wpList_append_rows fsc 1 16 fsc_len (by decide) (by decide) (.string ⟨#[]⟩) rfl rfl (.tmp 20) (.tmp 24) 29 rfl 9 (w.heap.size + 1) Tryz.underlying29 Tryz.info9 _ [nmA 3] rfl own5b _ [e5] rfl own5a.row (fsc_one _) (by simp) (by omega) ?_)
  intro v5 w5 own5 hg5
  have ab5 := row_other own5b hg5 ab5a (by decide)
  have sb5 := row_other own5b hg5 sb5a (by decide)
  have B5 := row_below own5b hg5 B5a B5a.size (by omega)
  have V5 := hide (V0.out.below B5)
  obtain ⟨g5, k5, hv5, r5, _, _⟩ := own5.form (by simp)
  replace hv5 : v5 = .slice (some ⟨g5, 0, none⟩) 2 k5 := hv5
  replace r5 : 2 ≤ k5 := r5
  subst hv5
  have D5 := sx_of ab5
  clear c0 c1 c2 c3 c4 c5 d0 d1 d2 d3 d4
  obtain ⟨c0, c1, c2, c3, c4, c5⟩ := D5
  have d0 := blk_cell sb5 0 rfl; have d1 := blk_cell sb5 1 rfl; have d2 := blk_cell sb5 2 rfl; have d3 := blk_cell sb5 3 rfl; have d4 := blk_cell sb5 4 rfl
  clear own5b own5a ab5a sb5a B5a hg5 b5 b5' q5 ab4 sb own4 B4
  have hz : a.ops = [] := by
    have := hop.out
    rw [show Sct.ho a.k = false by rw [HK.out]; decide] at this
    exact this
  have hl0 : (a.ops.length : Int) = 0 := by rw [hz]; rfl
  have TX : Hid (Sct.txt a = ([Sct.nm (3 : Nat)] ++ [Sct.dg a.u.toNat])) := hide (by
    unfold Sct.txt Sct.tail
    rw [HK.out, hz]
    rfl)
  clear hz
  go_wp2
  refine wp_loop_rounds 1 ?_
  rw [rounds_succ]
  go_wp2_with fail
  refine (join_any g5 k5 _ ([nmA 3] ++ [e5]) ([Sct.nm (3 : Nat)] ++ [Sct.dg a.u.toNat]) w5 _ own5 (by rfl) JN5.out (by rw [← TX.out]; exact TL.out.1) (by rw [← TX.out]; exact TL.out.2) r5 (by simp)).mono ?_
  rintro E wz ⟨rfl, bz⟩
  have TT := hide (show TRet w a (.returned (.string ⟨(Sct.jn ([Sct.nm (3 : Nat)] ++ [Sct.dg a.u.toNat])).toArray⟩)) wz from ⟨by rw [TX.out], B5.trans (bz.mono B5.size)⟩)
  clear bz
  go_wp2
  go_ret
  exact TT.out

set_option maxHeartbeats 4000000 in
theorem textOf_4 (a : Sct.Av) (v : Value) (w : World) (hv : Vs w) (hok : Sct.Ok a) (h : IsO w v a.ops) (hk : a.k = 4) : Calls Tryz.prog 28 #[acv a v] w (TRet w a) := by
  obtain ⟨oa, oc, rfl, _, _⟩ := h.shape
  obtain ⟨w1, hw1, s1, b1, ab⟩ := blk_step w #[.int .i64 a.k, .int .i64 a.u, .int .i64 a.n, .int .i64 a.t, .string a.key, .slice oa a.ops.length oc] 24
  have V0 := hide hv
  have V1 := hv.below b1
  have N1 : w1.cell? ⟨0, 4, none⟩ = some (.string (nmA 4)) := V1.nms 4 (by omega)
  obtain ⟨w2, hw2, s2, b2, own⟩ := rows_step fsc 1 fsc_len 9 w1 #[.string (nmA 4)] 1 [nmA 4] rfl rfl (by simp [maxLen])
  have ab2 := (b2.block w.heap.size (by omega)).trans ab
  rw [hk] at ab ab2 hw1
  have B2 := b1.trans (b2.mono (by omega))
  have JN := hide (jnS_one 4 (by decide))
  have OK := hide hok
  have HK := hide hk
  have V2 := hide (V1.below b2)
  have TL := hide (txt_len hok)
  obtain ⟨u0, u1⟩ := hok.u
  obtain ⟨n0, n1⟩ := hok.n
  obtain ⟨t0, t1⟩ := hok.t
  have hky := hide hok.key
  have hop := hide hok.ops
  have HO := hide h
  rw [s1] at own
  have a0 := blk_cell ab 0 rfl
  have a02 := blk_cell ab2 0 rfl
  unfold acv acc
  rw [hk]
  clear hok h hk hv V1 b1 b2
  go_enter Tryz.func28, Tryz.ntmps28
  go_wp2_with fail
  refine (shapeOf_any 4 w2 (by omega)).mono ?_
  rintro E w3 ⟨rfl, b3⟩
  rw [show shV 4 = .agg #[.int .i64 1, .int .i64 0, .int .i64 0, .bool false, .bool false] by rfl]
  obtain ⟨w4, hw4, s4, b4, sb⟩ := blk_step w3 #[.int .i64 1, .int .i64 0, .int .i64 0, .bool false, .bool false] 89
  have b24 := b3.trans (b4.mono b3.size)
  have g3 := b3.size
  have ab4 := (b24.block w.heap.size (by omega)).trans ab2
  have own4 := own.below b24
  have B4 := B2.trans (b24.mono (by omega))
  have V4 := hide (V2.out.below b24)
  have p0 := blk_froz sb 0; have p1 := blk_froz sb 1; have p2 := blk_froz sb 2; have p3 := blk_froz sb 3; have p4 := blk_froz sb 4
  have d0 := blk_cell sb 0 rfl; have d1 := blk_cell sb 1 rfl; have d2 := blk_cell sb 2 rfl; have d3 := blk_cell sb 3 rfl; have d4 := blk_cell sb 4 rfl
  have x0 := set_same sb (j := 0) (u := .int .i64 1) rfl; have x1 := set_same sb (j := 1) (u := .int .i64 0) rfl; have x2 := set_same sb (j := 2) (u := .int .i64 0) rfl; have x3 := set_same sb (j := 3) (u := .bool false) rfl; have x4 := set_same sb (j := 4) (u := .bool false) rfl
  have A4 := sx_of ab4
  obtain ⟨c0, c1, c2, c3, c4, c5⟩ := A4
  clear a0 a02 N1 ab ab2 own B2 b3 b4 b24
  go_wp2_with fail
  refine (itoa_any a.u w4 (by omega) (by omega) V4.out).mono ?_
  rintro E y5 ⟨rfl, b5⟩
  obtain ⟨e5, he5⟩ : ∃ e, (⟨(Lib.itoa a.u).toArray⟩ : ByteArray) = e := ⟨_, rfl⟩
  rw [he5]
  have JN5 := hide (show JnS ([nmA 4] ++ [e5]) ([Sct.nm (4 : Nat)] ++ [Sct.dg a.u.toNat]) from JN.out.add (by simp) (by rw [← he5]; exact itoa_word (by omega)))
  clear he5
  obtain ⟨z5, hz5, t5, q5, own5a⟩ := rows_step fsc 1 fsc_len 9 y5 #[.string e5] 1 [e5] rfl rfl (by simp [maxLen])
  have own5b := (own4.below b5).below q5
  have b5' := b5.trans (q5.mono b5.size)
  have ab5a := (b5'.block _ (blk_lt ab4)).trans ab4
  have sb5a := (b5'.block _ (blk_lt sb)).trans sb
  have B5a := B4.trans (b5'.mono B4.size)
  have o5s := B4.size
  have o5t := b5.size
  go_wp2_with (at_builtin; refine wpList_append_rows fsc 1 16 fsc_len (by decide) (by decide) (.string ⟨#[]⟩) rfl rfl (.tmp 20) (.tmp 24) 29 rfl 9 (w.heap.size + 1) Tryz.underlying29 Tryz.info9 _ [nmA 4] rfl own5b _ [e5] rfl own5a.row (fsc_one _) (by simp) (by omega) ?_)
  intro v5 w5 own5 hg5
  have ab5 := row_other own5b hg5 ab5a (by decide)
  have sb5 := row_other own5b hg5 sb5a (by decide)
  have B5 := row_below own5b hg5 B5a B5a.size (by omega)
  have V5 := hide (V0.out.below B5)
  obtain ⟨g5, k5, hv5, r5, _, _⟩ := own5.form (by simp)
  replace hv5 : v5 = .slice (some ⟨g5, 0, none⟩) 2 k5 := hv5
  replace r5 : 2 ≤ k5 := r5
  subst hv5
  have D5 := sx_of ab5
  clear c0 c1 c2 c3 c4 c5 d0 d1 d2 d3 d4
  obtain ⟨c0, c1, c2, c3, c4, c5⟩ := D5
  have d0 := blk_cell sb5 0 rfl; have d1 := blk_cell sb5 1 rfl; have d2 := blk_cell sb5 2 rfl; have d3 := blk_cell sb5 3 rfl; have d4 := blk_cell sb5 4 rfl
  clear own5b own5a ab5a sb5a B5a hg5 b5 b5' q5 ab4 sb own4 B4
  have hz : a.ops = [] := by
    have := hop.out
    rw [show Sct.ho a.k = false by rw [HK.out]; decide] at this
    exact this
  have hl0 : (a.ops.length : Int) = 0 := by rw [hz]; rfl
  have TX : Hid (Sct.txt a = ([Sct.nm (4 : Nat)] ++ [Sct.dg a.u.toNat])) := hide (by
    unfold Sct.txt Sct.tail
    rw [HK.out, hz]
    rfl)
  clear hz
  go_wp2
  refine wp_loop_rounds 1 ?_
  rw [rounds_succ]
  go_wp2_with fail
  refine (join_any g5 k5 _ ([nmA 4] ++ [e5]) ([Sct.nm (4 : Nat)] ++ [Sct.dg a.u.toNat]) w5 _ own5 (by rfl) JN5.out (by rw [← TX.out]; exact TL.out.1) (by rw [← TX.out]; exact TL.out.2) r5 (by simp)).mono ?_
  rintro E wz ⟨rfl, bz⟩
  have TT := hide (show TRet w a (.returned (.string ⟨(Sct.jn ([Sct.nm (4 : Nat)] ++ [Sct.dg a.u.toNat])).toArray⟩)) wz from ⟨by rw [TX.out], B5.trans (bz.mono B5.size)⟩)
  clear bz
  go_wp2
  go_ret
  exact TT.out

set_option maxHeartbeats 4000000 in
theorem textOf_5 (a : Sct.Av) (v : Value) (w : World) (hv : Vs w) (hok : Sct.Ok a) (h : IsO w v a.ops) (hk : a.k = 5) : Calls Tryz.prog 28 #[acv a v] w (TRet w a) := by
  obtain ⟨oa, oc, rfl, _, _⟩ := h.shape
  obtain ⟨w1, hw1, s1, b1, ab⟩ := blk_step w #[.int .i64 a.k, .int .i64 a.u, .int .i64 a.n, .int .i64 a.t, .string a.key, .slice oa a.ops.length oc] 24
  have V0 := hide hv
  have V1 := hv.below b1
  have N1 : w1.cell? ⟨0, 5, none⟩ = some (.string (nmA 5)) := V1.nms 5 (by omega)
  obtain ⟨w2, hw2, s2, b2, own⟩ := rows_step fsc 1 fsc_len 9 w1 #[.string (nmA 5)] 1 [nmA 5] rfl rfl (by simp [maxLen])
  have ab2 := (b2.block w.heap.size (by omega)).trans ab
  rw [hk] at ab ab2 hw1
  have B2 := b1.trans (b2.mono (by omega))
  have JN := hide (jnS_one 5 (by decide))
  have OK := hide hok
  have HK := hide hk
  have V2 := hide (V1.below b2)
  have TL := hide (txt_len hok)
  obtain ⟨u0, u1⟩ := hok.u
  obtain ⟨n0, n1⟩ := hok.n
  obtain ⟨t0, t1⟩ := hok.t
  have hky := hide hok.key
  have hop := hide hok.ops
  have HO := hide h
  rw [s1] at own
  have a0 := blk_cell ab 0 rfl
  have a02 := blk_cell ab2 0 rfl
  unfold acv acc
  rw [hk]
  clear hok h hk hv V1 b1 b2
  go_enter Tryz.func28, Tryz.ntmps28
  go_wp2_with fail
  refine (shapeOf_any 5 w2 (by omega)).mono ?_
  rintro E w3 ⟨rfl, b3⟩
  rw [show shV 5 = .agg #[.int .i64 1, .int .i64 0, .int .i64 0, .bool false, .bool false] by rfl]
  obtain ⟨w4, hw4, s4, b4, sb⟩ := blk_step w3 #[.int .i64 1, .int .i64 0, .int .i64 0, .bool false, .bool false] 89
  have b24 := b3.trans (b4.mono b3.size)
  have g3 := b3.size
  have ab4 := (b24.block w.heap.size (by omega)).trans ab2
  have own4 := own.below b24
  have B4 := B2.trans (b24.mono (by omega))
  have V4 := hide (V2.out.below b24)
  have p0 := blk_froz sb 0; have p1 := blk_froz sb 1; have p2 := blk_froz sb 2; have p3 := blk_froz sb 3; have p4 := blk_froz sb 4
  have d0 := blk_cell sb 0 rfl; have d1 := blk_cell sb 1 rfl; have d2 := blk_cell sb 2 rfl; have d3 := blk_cell sb 3 rfl; have d4 := blk_cell sb 4 rfl
  have x0 := set_same sb (j := 0) (u := .int .i64 1) rfl; have x1 := set_same sb (j := 1) (u := .int .i64 0) rfl; have x2 := set_same sb (j := 2) (u := .int .i64 0) rfl; have x3 := set_same sb (j := 3) (u := .bool false) rfl; have x4 := set_same sb (j := 4) (u := .bool false) rfl
  have A4 := sx_of ab4
  obtain ⟨c0, c1, c2, c3, c4, c5⟩ := A4
  clear a0 a02 N1 ab ab2 own B2 b3 b4 b24
  go_wp2_with fail
  refine (itoa_any a.u w4 (by omega) (by omega) V4.out).mono ?_
  rintro E y5 ⟨rfl, b5⟩
  obtain ⟨e5, he5⟩ : ∃ e, (⟨(Lib.itoa a.u).toArray⟩ : ByteArray) = e := ⟨_, rfl⟩
  rw [he5]
  have JN5 := hide (show JnS ([nmA 5] ++ [e5]) ([Sct.nm (5 : Nat)] ++ [Sct.dg a.u.toNat]) from JN.out.add (by simp) (by rw [← he5]; exact itoa_word (by omega)))
  clear he5
  obtain ⟨z5, hz5, t5, q5, own5a⟩ := rows_step fsc 1 fsc_len 9 y5 #[.string e5] 1 [e5] rfl rfl (by simp [maxLen])
  have own5b := (own4.below b5).below q5
  have b5' := b5.trans (q5.mono b5.size)
  have ab5a := (b5'.block _ (blk_lt ab4)).trans ab4
  have sb5a := (b5'.block _ (blk_lt sb)).trans sb
  have B5a := B4.trans (b5'.mono B4.size)
  have o5s := B4.size
  have o5t := b5.size
  go_wp2_with (at_builtin; refine wpList_append_rows fsc 1 16 fsc_len (by decide) (by decide) (.string ⟨#[]⟩) rfl rfl (.tmp 20) (.tmp 24) 29 rfl 9 (w.heap.size + 1) Tryz.underlying29 Tryz.info9 _ [nmA 5] rfl own5b _ [e5] rfl own5a.row (fsc_one _) (by simp) (by omega) ?_)
  intro v5 w5 own5 hg5
  have ab5 := row_other own5b hg5 ab5a (by decide)
  have sb5 := row_other own5b hg5 sb5a (by decide)
  have B5 := row_below own5b hg5 B5a B5a.size (by omega)
  have V5 := hide (V0.out.below B5)
  obtain ⟨g5, k5, hv5, r5, _, _⟩ := own5.form (by simp)
  replace hv5 : v5 = .slice (some ⟨g5, 0, none⟩) 2 k5 := hv5
  replace r5 : 2 ≤ k5 := r5
  subst hv5
  have D5 := sx_of ab5
  clear c0 c1 c2 c3 c4 c5 d0 d1 d2 d3 d4
  obtain ⟨c0, c1, c2, c3, c4, c5⟩ := D5
  have d0 := blk_cell sb5 0 rfl; have d1 := blk_cell sb5 1 rfl; have d2 := blk_cell sb5 2 rfl; have d3 := blk_cell sb5 3 rfl; have d4 := blk_cell sb5 4 rfl
  clear own5b own5a ab5a sb5a B5a hg5 b5 b5' q5 ab4 sb own4 B4
  have hz : a.ops = [] := by
    have := hop.out
    rw [show Sct.ho a.k = false by rw [HK.out]; decide] at this
    exact this
  have hl0 : (a.ops.length : Int) = 0 := by rw [hz]; rfl
  have TX : Hid (Sct.txt a = ([Sct.nm (5 : Nat)] ++ [Sct.dg a.u.toNat])) := hide (by
    unfold Sct.txt Sct.tail
    rw [HK.out, hz]
    rfl)
  clear hz
  go_wp2
  refine wp_loop_rounds 1 ?_
  rw [rounds_succ]
  go_wp2_with fail
  refine (join_any g5 k5 _ ([nmA 5] ++ [e5]) ([Sct.nm (5 : Nat)] ++ [Sct.dg a.u.toNat]) w5 _ own5 (by rfl) JN5.out (by rw [← TX.out]; exact TL.out.1) (by rw [← TX.out]; exact TL.out.2) r5 (by simp)).mono ?_
  rintro E wz ⟨rfl, bz⟩
  have TT := hide (show TRet w a (.returned (.string ⟨(Sct.jn ([Sct.nm (5 : Nat)] ++ [Sct.dg a.u.toNat])).toArray⟩)) wz from ⟨by rw [TX.out], B5.trans (bz.mono B5.size)⟩)
  clear bz
  go_wp2
  go_ret
  exact TT.out

set_option maxHeartbeats 4000000 in
theorem textOf_6 (a : Sct.Av) (v : Value) (w : World) (hv : Vs w) (hok : Sct.Ok a) (h : IsO w v a.ops) (hk : a.k = 6) : Calls Tryz.prog 28 #[acv a v] w (TRet w a) := by
  obtain ⟨oa, oc, rfl, _, _⟩ := h.shape
  obtain ⟨w1, hw1, s1, b1, ab⟩ := blk_step w #[.int .i64 a.k, .int .i64 a.u, .int .i64 a.n, .int .i64 a.t, .string a.key, .slice oa a.ops.length oc] 24
  have V0 := hide hv
  have V1 := hv.below b1
  have N1 : w1.cell? ⟨0, 6, none⟩ = some (.string (nmA 6)) := V1.nms 6 (by omega)
  obtain ⟨w2, hw2, s2, b2, own⟩ := rows_step fsc 1 fsc_len 9 w1 #[.string (nmA 6)] 1 [nmA 6] rfl rfl (by simp [maxLen])
  have ab2 := (b2.block w.heap.size (by omega)).trans ab
  rw [hk] at ab ab2 hw1
  have B2 := b1.trans (b2.mono (by omega))
  have JN := hide (jnS_one 6 (by decide))
  have OK := hide hok
  have HK := hide hk
  have V2 := hide (V1.below b2)
  have TL := hide (txt_len hok)
  obtain ⟨u0, u1⟩ := hok.u
  obtain ⟨n0, n1⟩ := hok.n
  obtain ⟨t0, t1⟩ := hok.t
  have hky := hide hok.key
  have hop := hide hok.ops
  have HO := hide h
  rw [s1] at own
  have a0 := blk_cell ab 0 rfl
  have a02 := blk_cell ab2 0 rfl
  unfold acv acc
  rw [hk]
  clear hok h hk hv V1 b1 b2
  go_enter Tryz.func28, Tryz.ntmps28
  go_wp2_with fail
  refine (shapeOf_any 6 w2 (by omega)).mono ?_
  rintro E w3 ⟨rfl, b3⟩
  rw [show shV 6 = .agg #[.int .i64 0, .int .i64 999999999, .int .i64 0, .bool false, .bool false] by rfl]
  obtain ⟨w4, hw4, s4, b4, sb⟩ := blk_step w3 #[.int .i64 0, .int .i64 999999999, .int .i64 0, .bool false, .bool false] 89
  have b24 := b3.trans (b4.mono b3.size)
  have g3 := b3.size
  have ab4 := (b24.block w.heap.size (by omega)).trans ab2
  have own4 := own.below b24
  have B4 := B2.trans (b24.mono (by omega))
  have V4 := hide (V2.out.below b24)
  have p0 := blk_froz sb 0; have p1 := blk_froz sb 1; have p2 := blk_froz sb 2; have p3 := blk_froz sb 3; have p4 := blk_froz sb 4
  have d0 := blk_cell sb 0 rfl; have d1 := blk_cell sb 1 rfl; have d2 := blk_cell sb 2 rfl; have d3 := blk_cell sb 3 rfl; have d4 := blk_cell sb 4 rfl
  have x0 := set_same sb (j := 0) (u := .int .i64 0) rfl; have x1 := set_same sb (j := 1) (u := .int .i64 999999999) rfl; have x2 := set_same sb (j := 2) (u := .int .i64 0) rfl; have x3 := set_same sb (j := 3) (u := .bool false) rfl; have x4 := set_same sb (j := 4) (u := .bool false) rfl
  have A4 := sx_of ab4
  obtain ⟨c0, c1, c2, c3, c4, c5⟩ := A4
  clear a0 a02 N1 ab ab2 own B2 b3 b4 b24
  go_wp2_with fail
  refine (itoa_any a.n w4 (by omega) (by omega) V4.out).mono ?_
  rintro E y5 ⟨rfl, b5⟩
  obtain ⟨e5, he5⟩ : ∃ e, (⟨(Lib.itoa a.n).toArray⟩ : ByteArray) = e := ⟨_, rfl⟩
  rw [he5]
  have JN5 := hide (show JnS ([nmA 6] ++ [e5]) ([Sct.nm (6 : Nat)] ++ [Sct.dg a.n.toNat]) from JN.out.add (by simp) (by rw [← he5]; exact itoa_word (by omega)))
  clear he5
  obtain ⟨z5, hz5, t5, q5, own5a⟩ := rows_step fsc 1 fsc_len 9 y5 #[.string e5] 1 [e5] rfl rfl (by simp [maxLen])
  have own5b := (own4.below b5).below q5
  have b5' := b5.trans (q5.mono b5.size)
  have ab5a := (b5'.block _ (blk_lt ab4)).trans ab4
  have sb5a := (b5'.block _ (blk_lt sb)).trans sb
  have B5a := B4.trans (b5'.mono B4.size)
  have o5s := B4.size
  have o5t := b5.size
  go_wp2_with (at_builtin; refine wpList_append_rows fsc 1 16 fsc_len (by decide) (by decide) (.string ⟨#[]⟩) rfl rfl (.tmp 29) (.tmp 33) 29 rfl 9 (w.heap.size + 1) Tryz.underlying29 Tryz.info9 _ [nmA 6] rfl own5b _ [e5] rfl own5a.row (fsc_one _) (by simp) (by omega) ?_)
  intro v5 w5 own5 hg5
  have ab5 := row_other own5b hg5 ab5a (by decide)
  have sb5 := row_other own5b hg5 sb5a (by decide)
  have B5 := row_below own5b hg5 B5a B5a.size (by omega)
  have V5 := hide (V0.out.below B5)
  obtain ⟨g5, k5, hv5, r5, _, _⟩ := own5.form (by simp)
  replace hv5 : v5 = .slice (some ⟨g5, 0, none⟩) 2 k5 := hv5
  replace r5 : 2 ≤ k5 := r5
  subst hv5
  have D5 := sx_of ab5
  clear c0 c1 c2 c3 c4 c5 d0 d1 d2 d3 d4
  obtain ⟨c0, c1, c2, c3, c4, c5⟩ := D5
  have d0 := blk_cell sb5 0 rfl; have d1 := blk_cell sb5 1 rfl; have d2 := blk_cell sb5 2 rfl; have d3 := blk_cell sb5 3 rfl; have d4 := blk_cell sb5 4 rfl
  clear own5b own5a ab5a sb5a B5a hg5 b5 b5' q5 ab4 sb own4 B4
  have hz : a.ops = [] := by
    have := hop.out
    rw [show Sct.ho a.k = false by rw [HK.out]; decide] at this
    exact this
  have hl0 : (a.ops.length : Int) = 0 := by rw [hz]; rfl
  have TX : Hid (Sct.txt a = ([Sct.nm (6 : Nat)] ++ [Sct.dg a.n.toNat])) := hide (by
    unfold Sct.txt Sct.tail
    rw [HK.out, hz]
    rfl)
  clear hz
  go_wp2
  refine wp_loop_rounds 1 ?_
  rw [rounds_succ]
  go_wp2_with fail
  refine (join_any g5 k5 _ ([nmA 6] ++ [e5]) ([Sct.nm (6 : Nat)] ++ [Sct.dg a.n.toNat]) w5 _ own5 (by rfl) JN5.out (by rw [← TX.out]; exact TL.out.1) (by rw [← TX.out]; exact TL.out.2) r5 (by simp)).mono ?_
  rintro E wz ⟨rfl, bz⟩
  have TT := hide (show TRet w a (.returned (.string ⟨(Sct.jn ([Sct.nm (6 : Nat)] ++ [Sct.dg a.n.toNat])).toArray⟩)) wz from ⟨by rw [TX.out], B5.trans (bz.mono B5.size)⟩)
  clear bz
  go_wp2
  go_ret
  exact TT.out

end Go.Proofs.YtdlogcdpapknaaaGreatDoor
