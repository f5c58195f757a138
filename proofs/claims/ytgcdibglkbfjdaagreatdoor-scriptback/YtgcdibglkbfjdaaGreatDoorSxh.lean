/- Package script (layer 25): what the reader's act comes to, kind by kind. -/
import Derived.Test.YtgcdibglkbfjdaaGreatDoorSxg
namespace Go.Proofs.YtgcdibglkbfjdaaGreatDoor
open Go.RowKit
set_option linter.unusedVariables false
set_option maxRecDepth 100000

/-- A number was read. -/
structure NumS (ws : List ByteArray) (bad : Bool) (x : Int) (ws' : List ByteArray) (bad' : Bool) : Prop where
  snd : bad' = false → 0 ≤ x → x ≤ 999999999 → bad = false ∧ wl ws = Sct.dg x.toNat :: wl ws'
  cmp : bad = false → ∀ (m : Nat) R, m ≤ 999999999 → Sct.dg m :: R = wl ws → bad' = false ∧ x = m ∧ wl ws' = R

theorem numS_of {ws : List ByteArray} {bad ok : Bool} {x : Int} (h : NumP (ws.headD ⟨#[]⟩).data.toList x ok) : NumS ws bad x ws.tail (bad || ws.isEmpty || !ok) := by
  obtain ⟨_, h1, h2⟩ := h
  constructor
  · intro e h3 h4
    simp only [Bool.or_eq_false_iff, Bool.not_eq_false'] at e
    obtain ⟨⟨e1, e2⟩, e3⟩ := e
    cases ws with
    | nil => cases e2
    | cons a r => exact ⟨e1, by rw [h1 e3 h3 h4]; rfl⟩
  · intro e m R hm hw
    cases ws with
    | nil => simp [wl] at hw
    | cons a r =>
      simp only [wl, List.map_cons, List.cons.injEq] at hw
      obtain ⟨k1, k2⟩ := h2 m hm hw.1
      exact ⟨by simp [e, k1], k2, hw.2.symm⟩

/-- Bytes were read. -/
structure BytS (ws : List ByteArray) (bad : Bool) (t : ByteArray) (ws' : List ByteArray) (bad' : Bool) : Prop where
  snd : bad' = false → bad = false ∧ wl ws = Wm.wd t.data.toList :: wl ws'
  cmp : bad = false → ∀ (u : ByteArray) R, Wm.wd u.data.toList :: R = wl ws → bad' = false ∧ t = u ∧ wl ws' = R

theorem bytS_of {ws : List ByteArray} {bad ok : Bool} {t : ByteArray} (h : BytP (ws.headD ⟨#[]⟩).data.toList t ok) : BytS ws bad t ws.tail (bad || ws.isEmpty || !ok) := by
  constructor
  · intro e
    simp only [Bool.or_eq_false_iff, Bool.not_eq_false'] at e
    obtain ⟨⟨e1, e2⟩, e3⟩ := e
    cases ws with
    | nil => cases e2
    | cons a r =>
      rcases h with ⟨_, h⟩ | ⟨h, _⟩
      · exact ⟨e1, by rw [h]; rfl⟩
      · rw [e3] at h; cases h
  · intro e u R hw
    cases ws with
    | nil => simp [wl] at hw
    | cons a r =>
      simp only [wl, List.map_cons, List.cons.injEq] at hw
      rcases h with ⟨rfl, h⟩ | ⟨_, _, h⟩
      · exact ⟨by simp [e], Sct.ba_ext (Wm.wd_inj (h.trans hw.1.symm)), hw.2.symm⟩
      · exact absurd hw.1 (h _)

/-- What the reader's act comes to. -/
structure ActP (ws : List ByteArray) (a : Sct.Av) (ws' : List ByteArray) (bad' : Bool) : Prop where
  snd : bad' = false → ws' = [] → Sct.Ok a → Sct.txt a = wl ws
  cmp : ∀ b, Sct.Ok b → Sct.txt b = wl ws → a = b ∧ ws' = [] ∧ bad' = false
  ops : (∀ o ∈ a.ops, o.k.size ≤ 65536 ∧ o.v.size ≤ 65536) ∧ a.ops.length ≤ 65536
  key : a.key.size ≤ 65536

theorem wl_nil {ws : List ByteArray} (h : wl ws = []) : ws = [] := by simpa [wl] using h
theorem ok_del {b : Sct.Av} (h : Sct.Ok b) : ∀ o ∈ b.ops, vdel o := by
  have := h.ops
  split at this
  · exact fun o ho => Sct.chk_del this o ho
  · rw [this]; exact fun o ho => by simp at ho

/-- The kind's word. -/
theorem act_kind {ws : List ByteArray} {b : Sct.Av} (hb : Sct.Ok b) (hw : Sct.txt b = wl ws) : b.k = kd (ws.headD ⟨#[]⟩).data.toList ∧ Sct.tail b = wl ws.tail := by
  cases ws with
  | nil => simp [Sct.txt, wl] at hw
  | cons s r =>
    simp only [Sct.txt, wl, List.map_cons, List.cons.injEq] at hw
    refine ⟨?_, hw.2⟩
    show b.k = kd s.data.toList
    rw [← hw.1, kd_nm hb.k]
theorem act_word {ws : List ByteArray} (hne : ws ≠ []) (hk : 1 ≤ kd (ws.headD ⟨#[]⟩).data.toList) : wl ws = Sct.nm (kd (ws.headD ⟨#[]⟩).data.toList) :: wl ws.tail := by
  cases ws with
  | nil => exact absurd rfl hne
  | cons s r =>
    show s.data.toList :: wl r = _
    rw [show (s :: r).headD ⟨#[]⟩ = s from rfl] at hk ⊢
    rw [← nm_kd hk]
    rfl

theorem ext_av {a b : Sct.Av} (h1 : a.k = b.k) (h2 : a.u = b.u) (h3 : a.n = b.n) (h4 : a.t = b.t) (h5 : a.key = b.key) (h6 : a.ops = b.ops) : a = b := by
  cases a; cases b
  simp only at h1 h2 h3 h4 h5 h6
  subst h1 h2 h3 h4 h5 h6
  rfl

theorem actP_0 {ws : List ByteArray}   (hne : ws ≠ []) (hkd : kd (ws.headD ⟨#[]⟩).data.toList = 0)  : ActP ws ⟨0, 0, 0, 0, ⟨#[]⟩, []⟩ ws.tail false := by
  refine ⟨fun _ _ o => by have := o.k; simp at this, fun b hb hw => ?_, ⟨fun o ho => by simp at ho, by simp⟩, by show (ByteArray.mk #[]).size ≤ 65536; decide⟩
  have := (act_kind hb hw).1
  have := hb.k
  omega

theorem actP_1 {ws w2 w3 : List ByteArray} {b2 b3 : Bool} {u : Int} {ops : List Bm.Ov} (hne : ws ≠ []) (hkd : kd (ws.headD ⟨#[]⟩).data.toList = 1) (hu : NumS ws.tail false u w2 b2) (ho : OpsP w2 b2 ops w3 b3) (hl : w2.length ≤ 65536) : ActP ws ⟨1, u, 0, 0, ⟨#[]⟩, ops⟩ w3 b3 := by
  refine ⟨fun e0 e1 o => ?_, fun b hb hw => ?_, ⟨ho.fit, Nat.le_trans ho.len hl⟩, by show (ByteArray.mk #[]).size ≤ 65536; decide⟩
  · have hw := act_word hne (by omega)
    rw [hkd] at hw
    have u0 := o.u
    simp only at u0
    obtain ⟨f2, _, g2⟩ := ho.snd e0
    obtain ⟨f1, g1⟩ := hu.snd f2 (by omega) (by omega)
    rw [hw, g1, g2]
    show _ :: _ :: ([] ++ ([] ++ ([] ++ Sct.opw ops))) = _
    rfl
  · obtain ⟨k1, k2⟩ := act_kind hb hw
    rw [hkd] at k1
    have hd := ok_del hb
    obtain ⟨k, u1, n1, t1, key1, ops1⟩ := b
    have k1 : k = 1 := k1
    subst k1
    have oU := hb.u; have oN := hb.n; have oT := hb.t
    have zn : n1 = 0 := hb.n0 (show Sct.hn 1 = false by decide)
    subst zn
    have zt : t1 = 0 := hb.t0 (show Sct.ht 1 = false by decide)
    subst zt
    have zk : key1 = ⟨#[]⟩ := hb.key
    subst zk
    simp only at oU oN oT hd
    have k2 : Sct.dg u1.toNat :: Sct.opw ops1 = wl ws.tail := k2
    obtain ⟨p1, q1, r1⟩ := hu.cmp rfl u1.toNat _ (by omega) k2
    obtain ⟨q2, r2, p2⟩ := ho.cmp p1 ops1 hd r1.symm
    exact ⟨ext_av rfl (by show u = u1; omega) rfl rfl rfl q2, r2, p2⟩

theorem actP_2 {ws w2 w3 : List ByteArray} {b2 b3 : Bool} {u : Int} {key : ByteArray} (hne : ws ≠ []) (hkd : kd (ws.headD ⟨#[]⟩).data.toList = 2) (hu : NumS ws.tail false u w2 b2) (hk' : BytS w2 b2 key w3 b3) (hz : key.size ≤ 65536) : ActP ws ⟨2, u, 0, 0, key, []⟩ w3 b3 := by
  refine ⟨fun e0 e1 o => ?_, fun b hb hw => ?_, ⟨fun o ho => by simp at ho, by simp⟩, hz⟩
  · have hw := act_word hne (by omega)
    rw [hkd] at hw
    have u0 := o.u
    simp only at u0
    obtain ⟨f2, g2⟩ := hk'.snd e0
    obtain ⟨f1, g1⟩ := hu.snd f2 (by omega) (by omega)
    rw [hw, g1, g2]
    rw [e1]
    rfl
  · obtain ⟨k1, k2⟩ := act_kind hb hw
    rw [hkd] at k1
    have hd := ok_del hb
    obtain ⟨k, u1, n1, t1, key1, ops1⟩ := b
    have k1 : k = 2 := k1
    subst k1
    have oU := hb.u; have oN := hb.n; have oT := hb.t
    have zn : n1 = 0 := hb.n0 (show Sct.hn 2 = false by decide)
    subst zn
    have zt : t1 = 0 := hb.t0 (show Sct.ht 2 = false by decide)
    subst zt
    have zo : ops1 = [] := hb.ops
    subst zo
    simp only at oU oN oT hd
    have k2 : Sct.dg u1.toNat :: Wm.wd key1.data.toList :: [] = wl ws.tail := k2
    obtain ⟨p1, q1, r1⟩ := hu.cmp rfl u1.toNat _ (by omega) k2
    obtain ⟨p2, q2, r2⟩ := hk'.cmp p1 key1 _ r1.symm
    exact ⟨ext_av rfl (by show u = u1; omega) rfl rfl q2 rfl, wl_nil r2, p2⟩

theorem actP_3 {ws w2 : List ByteArray} {b2 : Bool} {u : Int} (hne : ws ≠ []) (hkd : kd (ws.headD ⟨#[]⟩).data.toList = 3) (hu : NumS ws.tail false u w2 b2) : ActP ws ⟨3, u, 0, 0, ⟨#[]⟩, []⟩ w2 b2 := by
  refine ⟨fun e0 e1 o => ?_, fun b hb hw => ?_, ⟨fun o ho => by simp at ho, by simp⟩, by show (ByteArray.mk #[]).size ≤ 65536; decide⟩
  · have hw := act_word hne (by omega)
    rw [hkd] at hw
    have u0 := o.u
    simp only at u0
    obtain ⟨f1, g1⟩ := hu.snd e0 (by omega) (by omega)
    rw [hw, g1]
    rw [e1]
    rfl
  · obtain ⟨k1, k2⟩ := act_kind hb hw
    rw [hkd] at k1
    have hd := ok_del hb
    obtain ⟨k, u1, n1, t1, key1, ops1⟩ := b
    have k1 : k = 3 := k1
    subst k1
    have oU := hb.u; have oN := hb.n; have oT := hb.t
    have zn : n1 = 0 := hb.n0 (show Sct.hn 3 = false by decide)
    subst zn
    have zt : t1 = 0 := hb.t0 (show Sct.ht 3 = false by decide)
    subst zt
    have zk : key1 = ⟨#[]⟩ := hb.key
    subst zk
    have zo : ops1 = [] := hb.ops
    subst zo
    simp only at oU oN oT hd
    have k2 : Sct.dg u1.toNat :: [] = wl ws.tail := k2
    obtain ⟨p1, q1, r1⟩ := hu.cmp rfl u1.toNat _ (by omega) k2
    exact ⟨ext_av rfl (by show u = u1; omega) rfl rfl rfl rfl, wl_nil r1, p1⟩

theorem actP_4 {ws w2 : List ByteArray} {b2 : Bool} {u : Int} (hne : ws ≠ []) (hkd : kd (ws.headD ⟨#[]⟩).data.toList = 4) (hu : NumS ws.tail false u w2 b2) : ActP ws ⟨4, u, 0, 0, ⟨#[]⟩, []⟩ w2 b2 := by
  refine ⟨fun e0 e1 o => ?_, fun b hb hw => ?_, ⟨fun o ho => by simp at ho, by simp⟩, by show (ByteArray.mk #[]).size ≤ 65536; decide⟩
  · have hw := act_word hne (by omega)
    rw [hkd] at hw
    have u0 := o.u
    simp only at u0
    obtain ⟨f1, g1⟩ := hu.snd e0 (by omega) (by omega)
    rw [hw, g1]
    rw [e1]
    rfl
  · obtain ⟨k1, k2⟩ := act_kind hb hw
    rw [hkd] at k1
    have hd := ok_del hb
    obtain ⟨k, u1, n1, t1, key1, ops1⟩ := b
    have k1 : k = 4 := k1
    subst k1
    have oU := hb.u; have oN := hb.n; have oT := hb.t
    have zn : n1 = 0 := hb.n0 (show Sct.hn 4 = false by decide)
    subst zn
    have zt : t1 = 0 := hb.t0 (show Sct.ht 4 = false by decide)
    subst zt
    have zk : key1 = ⟨#[]⟩ := hb.key
    subst zk
    have zo : ops1 = [] := hb.ops
    subst zo
    simp only at oU oN oT hd
    have k2 : Sct.dg u1.toNat :: [] = wl ws.tail := k2
    obtain ⟨p1, q1, r1⟩ := hu.cmp rfl u1.toNat _ (by omega) k2
    exact ⟨ext_av rfl (by show u = u1; omega) rfl rfl rfl rfl, wl_nil r1, p1⟩

theorem actP_5 {ws w2 : List ByteArray} {b2 : Bool} {u : Int} (hne : ws ≠ []) (hkd : kd (ws.headD ⟨#[]⟩).data.toList = 5) (hu : NumS ws.tail false u w2 b2) : ActP ws ⟨5, u, 0, 0, ⟨#[]⟩, []⟩ w2 b2 := by
  refine ⟨fun e0 e1 o => ?_, fun b hb hw => ?_, ⟨fun o ho => by simp at ho, by simp⟩, by show (ByteArray.mk #[]).size ≤ 65536; decide⟩
  · have hw := act_word hne (by omega)
    rw [hkd] at hw
    have u0 := o.u
    simp only at u0
    obtain ⟨f1, g1⟩ := hu.snd e0 (by omega) (by omega)
    rw [hw, g1]
    rw [e1]
    rfl
  · obtain ⟨k1, k2⟩ := act_kind hb hw
    rw [hkd] at k1
    have hd := ok_del hb
    obtain ⟨k, u1, n1, t1, key1, ops1⟩ := b
    have k1 : k = 5 := k1
    subst k1
    have oU := hb.u; have oN := hb.n; have oT := hb.t
    have zn : n1 = 0 := hb.n0 (show Sct.hn 5 = false by decide)
    subst zn
    have zt : t1 = 0 := hb.t0 (show Sct.ht 5 = false by decide)
    subst zt
    have zk : key1 = ⟨#[]⟩ := hb.key
    subst zk
    have zo : ops1 = [] := hb.ops
    subst zo
    simp only at oU oN oT hd
    have k2 : Sct.dg u1.toNat :: [] = wl ws.tail := k2
    obtain ⟨p1, q1, r1⟩ := hu.cmp rfl u1.toNat _ (by omega) k2
    exact ⟨ext_av rfl (by show u = u1; omega) rfl rfl rfl rfl, wl_nil r1, p1⟩

theorem actP_6 {ws w2 : List ByteArray} {b2 : Bool} {n : Int} (hne : ws ≠ []) (hkd : kd (ws.headD ⟨#[]⟩).data.toList = 6) (hn : NumS ws.tail false n w2 b2) : ActP ws ⟨6, 0, n, 0, ⟨#[]⟩, []⟩ w2 b2 := by
  refine ⟨fun e0 e1 o => ?_, fun b hb hw => ?_, ⟨fun o ho => by simp at ho, by simp⟩, by show (ByteArray.mk #[]).size ≤ 65536; decide⟩
  · have hw := act_word hne (by omega)
    rw [hkd] at hw
    have n0 := o.n
    simp only at n0
    obtain ⟨f1, g1⟩ := hn.snd e0 (by omega) (by omega)
    rw [hw, g1]
    rw [e1]
    rfl
  · obtain ⟨k1, k2⟩ := act_kind hb hw
    rw [hkd] at k1
    have hd := ok_del hb
    obtain ⟨k, u1, n1, t1, key1, ops1⟩ := b
    have k1 : k = 6 := k1
    subst k1
    have oU := hb.u; have oN := hb.n; have oT := hb.t
    have zu : u1 = 0 := hb.u0 (show Sct.hu 6 = false by decide)
    subst zu
    have zt : t1 = 0 := hb.t0 (show Sct.ht 6 = false by decide)
    subst zt
    have zk : key1 = ⟨#[]⟩ := hb.key
    subst zk
    have zo : ops1 = [] := hb.ops
    subst zo
    simp only at oU oN oT hd
    have k2 : Sct.dg n1.toNat :: [] = wl ws.tail := k2
    obtain ⟨p1, q1, r1⟩ := hn.cmp rfl n1.toNat _ (by omega) k2
    exact ⟨ext_av rfl rfl (by show n = n1; omega) rfl rfl rfl, wl_nil r1, p1⟩

theorem actP_7 {ws w2 : List ByteArray} {b2 : Bool} {n : Int} (hne : ws ≠ []) (hkd : kd (ws.headD ⟨#[]⟩).data.toList = 7) (hn : NumS ws.tail false n w2 b2) : ActP ws ⟨7, 0, n, 0, ⟨#[]⟩, []⟩ w2 b2 := by
  refine ⟨fun e0 e1 o => ?_, fun b hb hw => ?_, ⟨fun o ho => by simp at ho, by simp⟩, by show (ByteArray.mk #[]).size ≤ 65536; decide⟩
  · have hw := act_word hne (by omega)
    rw [hkd] at hw
    have n0 := o.n
    simp only at n0
    obtain ⟨f1, g1⟩ := hn.snd e0 (by omega) (by omega)
    rw [hw, g1]
    rw [e1]
    rfl
  · obtain ⟨k1, k2⟩ := act_kind hb hw
    rw [hkd] at k1
    have hd := ok_del hb
    obtain ⟨k, u1, n1, t1, key1, ops1⟩ := b
    have k1 : k = 7 := k1
    subst k1
    have oU := hb.u; have oN := hb.n; have oT := hb.t
    have zu : u1 = 0 := hb.u0 (show Sct.hu 7 = false by decide)
    subst zu
    have zt : t1 = 0 := hb.t0 (show Sct.ht 7 = false by decide)
    subst zt
    have zk : key1 = ⟨#[]⟩ := hb.key
    subst zk
    have zo : ops1 = [] := hb.ops
    subst zo
    simp only at oU oN oT hd
    have k2 : Sct.dg n1.toNat :: [] = wl ws.tail := k2
    obtain ⟨p1, q1, r1⟩ := hn.cmp rfl n1.toNat _ (by omega) k2
    exact ⟨ext_av rfl rfl (by show n = n1; omega) rfl rfl rfl, wl_nil r1, p1⟩

theorem actP_8 {ws w2 : List ByteArray} {b2 : Bool} {n : Int} (hne : ws ≠ []) (hkd : kd (ws.headD ⟨#[]⟩).data.toList = 8) (hn : NumS ws.tail false n w2 b2) : ActP ws ⟨8, 0, n, 0, ⟨#[]⟩, []⟩ w2 b2 := by
  refine ⟨fun e0 e1 o => ?_, fun b hb hw => ?_, ⟨fun o ho => by simp at ho, by simp⟩, by show (ByteArray.mk #[]).size ≤ 65536; decide⟩
  · have hw := act_word hne (by omega)
    rw [hkd] at hw
    have n0 := o.n
    simp only at n0
    obtain ⟨f1, g1⟩ := hn.snd e0 (by omega) (by omega)
    rw [hw, g1]
    rw [e1]
    rfl
  · obtain ⟨k1, k2⟩ := act_kind hb hw
    rw [hkd] at k1
    have hd := ok_del hb
    obtain ⟨k, u1, n1, t1, key1, ops1⟩ := b
    have k1 : k = 8 := k1
    subst k1
    have oU := hb.u; have oN := hb.n; have oT := hb.t
    have zu : u1 = 0 := hb.u0 (show Sct.hu 8 = false by decide)
    subst zu
    have zt : t1 = 0 := hb.t0 (show Sct.ht 8 = false by decide)
    subst zt
    have zk : key1 = ⟨#[]⟩ := hb.key
    subst zk
    have zo : ops1 = [] := hb.ops
    subst zo
    simp only at oU oN oT hd
    have k2 : Sct.dg n1.toNat :: [] = wl ws.tail := k2
    obtain ⟨p1, q1, r1⟩ := hn.cmp rfl n1.toNat _ (by omega) k2
    exact ⟨ext_av rfl rfl (by show n = n1; omega) rfl rfl rfl, wl_nil r1, p1⟩

theorem actP_9 {ws w2 w3 : List ByteArray} {b2 b3 : Bool} {u n : Int} (hne : ws ≠ []) (hkd : kd (ws.headD ⟨#[]⟩).data.toList = 9) (hu : NumS ws.tail false u w2 b2) (hn : NumS w2 b2 n w3 b3) : ActP ws ⟨9, u, n, 0, ⟨#[]⟩, []⟩ w3 b3 := by
  refine ⟨fun e0 e1 o => ?_, fun b hb hw => ?_, ⟨fun o ho => by simp at ho, by simp⟩, by show (ByteArray.mk #[]).size ≤ 65536; decide⟩
  · have hw := act_word hne (by omega)
    rw [hkd] at hw
    have u0 := o.u
    have n0 := o.n
    simp only at u0 n0
    obtain ⟨f2, g2⟩ := hn.snd e0 (by omega) (by omega)
    obtain ⟨f1, g1⟩ := hu.snd f2 (by omega) (by omega)
    rw [hw, g1, g2]
    rw [e1]
    rfl
  · obtain ⟨k1, k2⟩ := act_kind hb hw
    rw [hkd] at k1
    have hd := ok_del hb
    obtain ⟨k, u1, n1, t1, key1, ops1⟩ := b
    have k1 : k = 9 := k1
    subst k1
    have oU := hb.u; have oN := hb.n; have oT := hb.t
    have zt : t1 = 0 := hb.t0 (show Sct.ht 9 = false by decide)
    subst zt
    have zk : key1 = ⟨#[]⟩ := hb.key
    subst zk
    have zo : ops1 = [] := hb.ops
    subst zo
    simp only at oU oN oT hd
    have k2 : Sct.dg u1.toNat :: Sct.dg n1.toNat :: [] = wl ws.tail := k2
    obtain ⟨p1, q1, r1⟩ := hu.cmp rfl u1.toNat _ (by omega) k2
    obtain ⟨p2, q2, r2⟩ := hn.cmp p1 n1.toNat _ (by omega) r1.symm
    exact ⟨ext_av rfl (by show u = u1; omega) (by show n = n1; omega) rfl rfl rfl, wl_nil r2, p2⟩

theorem actP_10 {ws w2 : List ByteArray} {b2 : Bool} {u : Int} (hne : ws ≠ []) (hkd : kd (ws.headD ⟨#[]⟩).data.toList = 10) (hu : NumS ws.tail false u w2 b2) : ActP ws ⟨10, u, 0, 0, ⟨#[]⟩, []⟩ w2 b2 := by
  refine ⟨fun e0 e1 o => ?_, fun b hb hw => ?_, ⟨fun o ho => by simp at ho, by simp⟩, by show (ByteArray.mk #[]).size ≤ 65536; decide⟩
  · have hw := act_word hne (by omega)
    rw [hkd] at hw
    have u0 := o.u
    simp only at u0
    obtain ⟨f1, g1⟩ := hu.snd e0 (by omega) (by omega)
    rw [hw, g1]
    rw [e1]
    rfl
  · obtain ⟨k1, k2⟩ := act_kind hb hw
    rw [hkd] at k1
    have hd := ok_del hb
    obtain ⟨k, u1, n1, t1, key1, ops1⟩ := b
    have k1 : k = 10 := k1
    subst k1
    have oU := hb.u; have oN := hb.n; have oT := hb.t
    have zn : n1 = 0 := hb.n0 (show Sct.hn 10 = false by decide)
    subst zn
    have zt : t1 = 0 := hb.t0 (show Sct.ht 10 = false by decide)
    subst zt
    have zk : key1 = ⟨#[]⟩ := hb.key
    subst zk
    have zo : ops1 = [] := hb.ops
    subst zo
    simp only at oU oN oT hd
    have k2 : Sct.dg u1.toNat :: [] = wl ws.tail := k2
    obtain ⟨p1, q1, r1⟩ := hu.cmp rfl u1.toNat _ (by omega) k2
    exact ⟨ext_av rfl (by show u = u1; omega) rfl rfl rfl rfl, wl_nil r1, p1⟩

theorem actP_11 {ws w2 w3 w4 : List ByteArray} {b2 b3 b4 : Bool} {u n t : Int} (hne : ws ≠ []) (hkd : kd (ws.headD ⟨#[]⟩).data.toList = 11) (hu : NumS ws.tail false u w2 b2) (hn : NumS w2 b2 n w3 b3) (ht : NumS w3 b3 t w4 b4) : ActP ws ⟨11, u, n, t, ⟨#[]⟩, []⟩ w4 b4 := by
  refine ⟨fun e0 e1 o => ?_, fun b hb hw => ?_, ⟨fun o ho => by simp at ho, by simp⟩, by show (ByteArray.mk #[]).size ≤ 65536; decide⟩
  · have hw := act_word hne (by omega)
    rw [hkd] at hw
    have u0 := o.u
    have n0 := o.n
    have t0 := o.t
    simp only at u0 n0 t0
    obtain ⟨f3, g3⟩ := ht.snd e0 (by omega) (by omega)
    obtain ⟨f2, g2⟩ := hn.snd f3 (by omega) (by omega)
    obtain ⟨f1, g1⟩ := hu.snd f2 (by omega) (by omega)
    rw [hw, g1, g2, g3]
    rw [e1]
    rfl
  · obtain ⟨k1, k2⟩ := act_kind hb hw
    rw [hkd] at k1
    have hd := ok_del hb
    obtain ⟨k, u1, n1, t1, key1, ops1⟩ := b
    have k1 : k = 11 := k1
    subst k1
    have oU := hb.u; have oN := hb.n; have oT := hb.t
    have zk : key1 = ⟨#[]⟩ := hb.key
    subst zk
    have zo : ops1 = [] := hb.ops
    subst zo
    simp only at oU oN oT hd
    have k2 : Sct.dg u1.toNat :: Sct.dg n1.toNat :: Sct.dg t1.toNat :: [] = wl ws.tail := k2
    obtain ⟨p1, q1, r1⟩ := hu.cmp rfl u1.toNat _ (by omega) k2
    obtain ⟨p2, q2, r2⟩ := hn.cmp p1 n1.toNat _ (by omega) r1.symm
    obtain ⟨p3, q3, r3⟩ := ht.cmp p2 t1.toNat _ (by omega) r2.symm
    exact ⟨ext_av rfl (by show u = u1; omega) (by show n = n1; omega) (by show t = t1; omega) rfl rfl, wl_nil r3, p3⟩

theorem actP_12 {ws : List ByteArray}   (hne : ws ≠ []) (hkd : kd (ws.headD ⟨#[]⟩).data.toList = 12)  : ActP ws ⟨12, 0, 0, 0, ⟨#[]⟩, []⟩ ws.tail false := by
  refine ⟨fun e0 e1 o => ?_, fun b hb hw => ?_, ⟨fun o ho => by simp at ho, by simp⟩, by show (ByteArray.mk #[]).size ≤ 65536; decide⟩
  · have hw := act_word hne (by omega)
    rw [hkd] at hw
    rw [hw]
    rw [e1]
    rfl
  · obtain ⟨k1, k2⟩ := act_kind hb hw
    rw [hkd] at k1
    have hd := ok_del hb
    obtain ⟨k, u1, n1, t1, key1, ops1⟩ := b
    have k1 : k = 12 := k1
    subst k1
    have oU := hb.u; have oN := hb.n; have oT := hb.t
    have zu : u1 = 0 := hb.u0 (show Sct.hu 12 = false by decide)
    subst zu
    have zn : n1 = 0 := hb.n0 (show Sct.hn 12 = false by decide)
    subst zn
    have zt : t1 = 0 := hb.t0 (show Sct.ht 12 = false by decide)
    subst zt
    have zk : key1 = ⟨#[]⟩ := hb.key
    subst zk
    have zo : ops1 = [] := hb.ops
    subst zo
    simp only at oU oN oT hd
    have k2 : [] = wl ws.tail := k2
    exact ⟨ext_av rfl rfl rfl rfl rfl rfl, wl_nil k2.symm, rfl⟩

end Go.Proofs.YtgcdibglkbfjdaaGreatDoor
