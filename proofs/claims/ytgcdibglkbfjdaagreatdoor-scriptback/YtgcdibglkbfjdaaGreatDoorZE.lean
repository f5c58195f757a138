/- Texts of one layer, one behind the other. -/
import Derived.Test.YtgcdibglkbfjdaaGreatDoorSya
import Derived.Test.YtgcdibglkbfjdaaGreatDoorZA
import Derived.Test.YtgcdibglkbfjdaaGreatDoorSyb
import Derived.Test.YtgcdibglkbfjdaaGreatDoorZC
/- There and back, of texts and acts (layer 25). No program. -/
namespace Go.Proofs.YtgcdibglkbfjdaaGreatDoor
set_option linter.unusedVariables false
set_option maxRecDepth 100000

theorem esc_ten (c : UInt8) : (10 : UInt8) ∉ Wm.esc c := by
  have := Wm.all_bytes (P := fun c => !(Wm.esc c).contains 10) (by decide +kernel) c
  simpa using this
theorem wd_ten (s : List UInt8) : (10 : UInt8) ∉ Wm.wd s := by
  by_cases hs : s = []
  · rw [hs]; decide
  · rw [Wm.wd_full hs]
    unfold Wm.flat
    rw [List.mem_flatMap]
    rintro ⟨c, _, h⟩
    exact esc_ten c h

/-- A word: not empty, no blank, no end of a line. -/
def Wd (w : List UInt8) : Prop := w ≠ [] ∧ 32 ∉ w ∧ 10 ∉ w
theorem wd_w (s : List UInt8) : Wd (Wm.wd s) := ⟨Wm.wd_ne s, Wm.wd_blank s, wd_ten s⟩
theorem opw_w : ∀ l : List Bm.Ov, ∀ w ∈ Sct.opw l, Wd w
  | [], w, h => by simp [Sct.opw] at h
  | o :: r, w, h => by
    simp only [Sct.opw] at h
    rcases List.mem_append.1 h with h | h
    · split at h
      · simp only [List.mem_cons, List.not_mem_nil, or_false] at h
        rcases h with rfl | rfl | rfl
        · exact ⟨by decide, by decide, by decide⟩
        · exact wd_w _
        · exact wd_w _
      · simp only [List.mem_cons, List.not_mem_nil, or_false] at h
        rcases h with rfl | rfl
        · exact ⟨by decide, by decide, by decide⟩
        · exact wd_w _
    · exact opw_w r w h
theorem txt_w {a : Sct.Av} (h : Sct.Ok a) : ∀ w ∈ Sct.txt a, Wd w := by
  have d1 := Sct.dg_word (n := a.u.toNat) (by have := h.u; omega)
  have d2 := Sct.dg_word (n := a.n.toNat) (by have := h.n; omega)
  have d3 := Sct.dg_word (n := a.t.toNat) (by have := h.t; omega)
  have one : ∀ (b : Bool) (x : List UInt8), Wd x → ∀ w ∈ (if b then [x] else []), Wd w := fun b x hx w hw => by
    cases b
    · simp at hw
    · simp only [if_true, List.mem_singleton] at hw
      rw [hw]; exact hx
  intro w hw
  unfold Sct.txt Sct.tail at hw
  simp only [List.mem_cons, List.mem_append] at hw
  rcases hw with rfl | hw | hw | hw | hw | hw
  · have := Sct.nm_word a.k
    exact ⟨this.1, this.2.1, this.2.2.1⟩
  · exact one _ _ d1 w hw
  · exact one _ _ (wd_w _) w hw
  · exact one _ _ d2 w hw
  · exact one _ _ d3 w hw
  · split at hw
    · exact opw_w _ w hw
    · simp at hw

theorem jn_ten : ∀ ws : List (List UInt8), (∀ w ∈ ws, Wd w) → (10 : UInt8) ∉ Sct.jn ws
  | [], _ => by simp [Sct.jn]
  | [w], h => (h w (by simp)).2.2
  | w :: x :: r, h => by
    have h1 := (h w (by simp)).2.2
    have h2 := jn_ten (x :: r) fun v hv => h v (by simp [hv])
    intro hm
    rcases List.mem_append.1 (show (10 : UInt8) ∈ w ++ 32 :: Sct.jn (x :: r) from hm) with hm | hm
    · exact h1 hm
    · rcases List.mem_cons.1 hm with hm | hm
      · exact absurd hm (by decide)
      · exact h2 hm

theorem lres_txt {a : Sct.Av} (h : Sct.Ok a) : Sct.LRes (Sct.jn (Sct.txt a)) a true 0 := by
  have hw := txt_w h
  exact lres_yes (by have := txt_jn h; omega) (jn_ten _ hw) h (Sct.wds_jn _ fun w hx => ⟨(hw w hx).1, (hw w hx).2.1⟩).symm

theorem lns_prn : ∀ l : List Sct.Av, (∀ a ∈ l, Sct.Ok a) → Sct.lns (Sct.prn l) = l.map fun a => Sct.jn (Sct.txt a)
  | [], _ => rfl
  | a :: r, h => by
    have ih := lns_prn r fun b hb => h b (by simp [hb])
    show Sct.lnsA [] (Sct.jn (Sct.txt a) ++ 10 :: Sct.prn r) = _
    rw [lnsA_run _ _ _ (jn_ten _ (txt_w (h a (by simp)))), List.nil_append, Sct.lnsA, if_pos rfl, List.map_cons, ← ih]
    rfl
theorem pgo_prn : ∀ (l : List Sct.Av) (i : Nat) (acc : List Sct.Av), (∀ a ∈ l, Sct.Ok a) → acc.length + l.length ≤ 200 → Sct.PGo (l.map fun a => Sct.jn (Sct.txt a)) i acc (acc ++ l) 0 0
  | [], i, acc, _, _ => ⟨by simp, rfl, rfl⟩
  | a :: r, i, acc, h, hn => by
    rw [List.length_cons] at hn
    have ih := pgo_prn r (i + 1) (acc ++ [a]) (fun b hb => h b (by simp [hb])) (by simp only [List.length_append, List.length_cons, List.length_nil]; omega)
    rw [List.append_assoc] at ih
    exact ⟨a, true, 0, lres_txt (h a (by simp)), .inr (.inr (.inl ⟨rfl, rfl, by omega, ih⟩))⟩

/-- What is printed is read as it was. -/
theorem pres_prn {l : List Sct.Av} (h : ∀ a ∈ l, Sct.Ok a) (hn : l.length ≤ 200) (hs : (Sct.prn l).length ≤ 65536) : Sct.PRes (Sct.prn l) l 0 0 := by
  refine .inr ⟨hs, ?_⟩
  rw [lns_prn l h]
  exact pgo_prn l 0 [] h (by simpa using hn)

theorem jn_wds : ∀ (l cur : List UInt8), (Sct.jn (Sct.wdsA cur l)).length ≤ cur.length + l.length
  | [], cur => by
    rw [Sct.wdsA]
    split
    · simp [Sct.jn]
    · simp [Sct.jn]
  | c :: r, cur => by
    by_cases hc : c = 32
    · rw [hc, Sct.wdsA_blank]
      have ih := jn_wds r []
      split
      · simp only [List.length_nil, List.length_cons] at ih ⊢; omega
      · cases e : Sct.wdsA [] r with
        | nil => simp only [Sct.jn, List.length_cons]; omega
        | cons x y =>
          rw [e] at ih
          show (cur ++ 32 :: Sct.jn (x :: y)).length ≤ _
          simp only [List.length_append, List.length_cons, List.length_nil] at ih ⊢
          omega
    · rw [Sct.wdsA_on hc]
      have ih := jn_wds r (cur ++ [c])
      simp only [List.length_append, List.length_cons, List.length_nil] at ih ⊢
      omega

/-- The size of lines with their ends. -/
def tot : List (List UInt8) → Nat
  | [] => 0
  | x :: r => x.length + 1 + tot r
theorem tot_lns : ∀ (l cur : List UInt8), tot (Sct.lnsA cur l) ≤ cur.length + l.length + 1
  | [], cur => by
    rw [Sct.lnsA]
    split
    · simp [tot]
    · simp [tot]
  | c :: r, cur => by
    rw [Sct.lnsA]
    split
    · have ih := tot_lns r []
      simp only [tot, List.length_nil, List.length_cons] at ih ⊢
      omega
    · have ih := tot_lns r (cur ++ [c])
      simp only [List.length_append, List.length_cons, List.length_nil] at ih ⊢
      omega

theorem prn_add : ∀ l m : List Sct.Av, (Sct.prn (l ++ m)).length = (Sct.prn l).length + (Sct.prn m).length
  | [], m => by simp [Sct.prn]
  | a :: r, m => by
    have := prn_add r m
    show (Sct.jn (Sct.txt a) ++ 10 :: Sct.prn (r ++ m)).length = (Sct.jn (Sct.txt a) ++ 10 :: Sct.prn r).length + _
    simp only [List.length_append, List.length_cons] at this ⊢
    omega

theorem pgo_ok : ∀ (ls : List (List UInt8)) (i : Nat) (acc out : List Sct.Av) (p : Int), Sct.PGo ls i acc out p 0 → (∀ a ∈ acc, Sct.Ok a) → acc.length ≤ 200 → (∀ a ∈ out, Sct.Ok a) ∧ out.length ≤ 200 ∧ (Sct.prn out).length ≤ (Sct.prn acc).length + tot ls ∧ p = 0
  | [], i, acc, out, p, h, ha, hn => by
    obtain ⟨rfl, rfl, _⟩ := h
    exact ⟨ha, hn, by simp [tot], rfl⟩
  | x :: r, i, acc, out, p, ⟨a, th, f, hl, h⟩, ha, hn => by
    rcases h with ⟨h1, _, _, h2⟩ | ⟨_, _, _, _, _, h2⟩ | ⟨rfl, rfl, h3, h⟩ | ⟨_, _, h⟩
    · exact absurd h2.symm h1
    · exact absurd h2 (by decide)
    · have hw : Sct.Ok a ∧ Sct.txt a = Sct.wds x := by
        rcases hl with ⟨_, _, h, _⟩ | ⟨_, _, _, _, h, _⟩ | ⟨_, _, _, h4, h5, _⟩ | ⟨_, _, _, h, _⟩
        · exact absurd h (by decide)
        · exact absurd h (by decide)
        · exact ⟨h4, h5⟩
        · exact absurd h (by decide)
      obtain ⟨k1, k2, k3, k4⟩ := pgo_ok r (i + 1) (acc ++ [a]) out p h (fun b hb => by
        rcases List.mem_append.1 hb with hb | hb
        · exact ha b hb
        · rw [List.mem_singleton.1 hb]; exact hw.1) (by simp only [List.length_append, List.length_cons, List.length_nil]; omega)
      refine ⟨k1, k2, ?_, k4⟩
      rw [prn_add] at k3
      have h7 := jn_wds x []
      have h8 : (Sct.prn [a]).length = (Sct.jn (Sct.txt a)).length + 1 := by simp [Sct.prn]
      rw [hw.2] at h8
      simp only [tot, List.length_nil] at h7 ⊢
      unfold Sct.wds at h8
      omega
    · obtain ⟨k1, k2, k3, k4⟩ := pgo_ok r (i + 1) acc out p h ha hn
      exact ⟨k1, k2, by simp only [tot]; omega, k4⟩

/-- What is read may be printed. -/
theorem pres_ok {s : List UInt8} {out : List Sct.Av} {p : Int} (h : Sct.PRes s out p 0) : (∀ a ∈ out, Sct.Ok a) ∧ out.length ≤ 200 ∧ (Sct.prn out).length ≤ s.length + 1 ∧ p = 0 := by
  rcases h with ⟨_, _, _, h⟩ | ⟨_, h⟩
  · exact absurd h (by decide)
  · obtain ⟨h1, h2, h3, h4⟩ := pgo_ok _ _ _ _ _ h (by simp) (by simp)
    have h5 := tot_lns s []
    simp only [Sct.prn, List.length_nil] at h3 h5
    unfold Sct.lns at h3
    exact ⟨h1, h2, by omega, h4⟩

theorem pgo_no : ∀ (ls : List (List UInt8)) (i : Nat) (acc out : List Sct.Av) (p e : Int), Sct.PGo ls i acc out p e → e ≠ 0 → out = []
  | [], i, acc, out, p, e, h, he => absurd h.2.2 he
  | x :: r, i, acc, out, p, e, ⟨a, th, f, hl, h⟩, he => by
    rcases h with ⟨_, h, _⟩ | ⟨_, _, _, h, _⟩ | ⟨_, _, _, h⟩ | ⟨_, _, h⟩
    · exact h
    · exact h
    · exact pgo_no r _ _ _ _ _ h he
    · exact pgo_no r _ _ _ _ _ h he
theorem pres_no {s : List UInt8} {out : List Sct.Av} {p e : Int} (h : Sct.PRes s out p e) (he : e ≠ 0) : out = [] := by
  rcases h with ⟨_, h, _⟩ | ⟨_, h⟩
  · exact h
  · exact pgo_no _ _ _ _ _ _ h he

theorem prr_yes {l : List Sct.Av} {s : List UInt8} {p : Int} (h : Sct.PrRes l s p 0) : s = Sct.prn l ∧ l.length ≤ 200 ∧ (∀ a ∈ l, Sct.Ok a) ∧ (Sct.prn l).length ≤ 65536 ∧ p = 0 := by
  rcases h with ⟨_, _, _, h⟩ | ⟨_, _, h, _⟩ | ⟨_, _, _, _, _, h⟩ | ⟨h1, h2, h3, h4, h5, _⟩
  · exact absurd h (by decide)
  · exact absurd h (by decide)
  · exact absurd h (by decide)
  · exact ⟨h4, h1, h2, h3, h5⟩
theorem prr_is {l : List Sct.Av} {s : List UInt8} {p e : Int} (h : Sct.PrRes l s p e) (hn : l.length ≤ 200) (ho : ∀ a ∈ l, Sct.Ok a) (hs : (Sct.prn l).length ≤ 65536) : s = Sct.prn l ∧ e = 0 := by
  rcases h with ⟨h, _⟩ | ⟨_, _, _, i, _, _, a, ha, hno⟩ | ⟨_, _, h, _⟩ | ⟨_, _, _, h4, _, h6⟩
  · omega
  · exact absurd (ho a (List.mem_of_getElem? ha)) hno
  · omega
  · exact ⟨h4, h6⟩

end Go.Proofs.YtgcdibglkbfjdaaGreatDoor

/- Package script (layer 25): the statement of there and back. -/
namespace Go.Proofs.YtgcdibglkbfjdaaGreatDoor
open Go.RowKit
set_option linter.unusedVariables false
set_option maxRecDepth 100000

theorem ok_fit {x : Aw} (h : Sct.Ok x.a) : FitA x := by
  have ho := h.ops
  have hk := h.key
  have h1 : x.a.ops.length ≤ 8 ∧ ∀ o ∈ x.a.ops, o.c = 0 := by
    split at ho
    · exact (Bm.chkL_zero ho).2
    · rw [ho]; exact ⟨by decide, fun o h => by simp at h⟩
  refine ⟨fun o hm => ?_, by omega, ?_⟩
  · have hc : Om.chk o.p o.kl o.vl = 0 := h1.2 o hm
    obtain ⟨_, k1, k2, _⟩ := Om.chk_ok' hc
    have k1 : o.k.data.toList.length ≤ 16 := k1
    have k2 : o.v.data.toList.length ≤ 32 := k2
    rw [Lib.size_eq, Lib.size_eq]
    omega
  · have := byt_kk hk
    omega

theorem ErrV.nil {w : World} {v : Value} {p : Int} (h : ErrV w v p 0) : v = .nilIface := by
  rcases h with ⟨_, h⟩ | ⟨h, _⟩
  · exact h
  · exact absurd rfl h
theorem ErrV.ptr {w : World} {v : Value} {p e : Int} (h : ErrV w v p e) (he : e ≠ 0) : ∃ b, v = .iface 78 (.pointer (some ⟨b, 0, none⟩)) := by
  rcases h with ⟨h, _⟩ | ⟨_, b, h, _⟩
  · exact absurd h he
  · exact ⟨b, h⟩

set_option maxHeartbeats 8000000 in
theorem scriptBack_walk (v : Value) (l : List Aw) (s : ByteArray) (w : World) (h : IsAs w v l) (hf : ∀ x ∈ l, FitA x) (hll : l.length * 72 ≤ 140737488351232) (hs : s.size ≤ 140737488351232) (hv : Vs w) : Calls Tryz.prog 6 #[v, .string s] w fun E w' => E = .returned (.bool true) ∧ Below w.heap.size w w' := by
  have AT := hide (fun W (hW : Below w.heap.size w W) => (h.below hW).at)
  have AS := hide h
  have V0 := hide hv
  have HF := hide hf
  obtain ⟨oa, oc, rfl, _, _⟩ := h.1.shape
  obtain ⟨n, hn⟩ : ∃ n, l.length = n := ⟨_, rfl⟩
  have HN := hide hn
  rw [hn] at hll AS ⊢
  have LV := hide (lives_any w hv)
  clear h hf hv hn
  go_enter Tryz.func6, Tryz.ntmps6
  go_wp2_with fail
  refine LV.out.mono ?_
  rintro E w1 ⟨rfl, b1⟩
  have B1 := hide b1
  clear b1 LV
  by_cases h60 : 60 < n
  · have h60' : (60 : Int) < n := by omega
    go_wp2
    go_ret
    exact ⟨rfl, B1.out⟩
  have h60' : ¬ (60 : Int) < n := by omega
  by_cases h8 : 8000 < s.size
  · have h8' : (8000 : Int) < s.size := by omega
    go_wp2
    go_ret
    exact ⟨rfl, B1.out⟩
  have h8' : ¬ (8000 : Int) < s.size := by omega
  go_wp2
  go_loopw [5] (fun iv wr => ∃ i : Nat, i ≤ n ∧ iv = .int .i64 i ∧ Below w.heap.size w wr) (fun iv _ => n - (intOf iv).toNat)
  case atStart => exact ⟨0, by omega, rfl, B1.out⟩
  case round =>
    obtain ⟨i, hi, rfl, bel⟩ := hrel
    by_cases hlt : i < n
    · have hlt' : (i : Int) < n := by omega
      obtain ⟨b, off, cap, hvv, hc⟩ := AT.out wr bel (by have := HN.out; omega)
      rw [HN.out] at hvv
      cases hvv
      obtain ⟨x, hx⟩ : ∃ x, l[i]? = some x := ⟨l[i]'(by have := HN.out; omega), List.getElem?_eq_getElem _⟩
      obtain ⟨⟨p0, p1, p2, p3, p4, p5⟩, ix⟩ := hc i x hx
      obtain ⟨xo, xc, hxv, _, _⟩ := ix.shape
      rw [hxv] at p5
      have BEL := hide bel
      obtain ⟨k, hk⟩ : ∃ k, x.a.ops.length = k := ⟨_, rfl⟩
      rw [hk] at p5
      clear hc ix hxv hx p0 p1 p2 p3 p4 hk
      by_cases h40 : 40 < k
      · have h40' : (40 : Int) < k := by omega
        go_wp2
        go_ret
        exact ⟨rfl, BEL.out⟩
      · have h40' : ¬ (40 : Int) < k := by omega
        go_wp2
        go_roundw
        case rel => exact ⟨i + 1, by omega, by go_num, BEL.out⟩
        case measure => simp [intOf]; omega
    · have hlt' : ¬ (i : Int) < n := by omega
      have BEL := hide bel
      have PL := hide (print_any _ l wr (V0.out.below bel) (AS.out.below bel) HF.out (by have := HN.out; omega))
      clear bel
      go_wp2_with fail
      refine PL.out.mono ?_
      rintro E w2 ⟨s1, v1, p1, e1, rfl, er1, pr1, b2⟩
      have B2 := hide (BEL.out.trans (b2.mono BEL.out.size))
      clear PL
      by_cases he1 : e1 = 0
      · subst he1
        obtain rfl := er1.nil
        obtain ⟨hs1, hn1, ok1, hl1, _⟩ := prr_yes pr1
        have hz1 : s1.size ≤ 65536 := by rw [Lib.size_eq, hs1]; exact hl1
        have PS := hide (parse_any s1 w2 (by omega) (V0.out.below B2.out))
        have PP := hide (pres_prn ok1 hn1 hl1)
        rw [← hs1] at PP
        clear er1 pr1 b2 hs1 hn1 ok1 hl1
        go_wp2_with fail
        refine PS.out.mono ?_
        rintro E w3 ⟨v3, ev3, l3, p3, e3, rfl, own3, er3, pr3, b3⟩
        obtain ⟨hm3, rfl, rfl⟩ := Sct.pres_one pr3 PP.out
        obtain rfl := er3.nil
        have B3 := hide (B2.out.trans (b3.mono B2.out.size))
        have hln : l3.length = n := by have := congrArg List.length hm3; rw [List.length_map, List.length_map, HN.out] at this; exact this
        have SM := hide (sames_yes v3 _ l3 l w3 own3.is (AS.out.below B3.out) hm3 (fun x hx => by
          have hxa : x.a ∈ l.map Aw.a := by rw [← hm3]; exact List.mem_map_of_mem hx
          obtain ⟨y, hy, hxy⟩ := List.mem_map.1 hxa
          rw [← hxy]
          exact (HF.out y hy).2.1) (by omega))
        clear er3 own3 pr3 b3 hm3 PS PP
        go_wp2_with fail
        refine SM.out.mono ?_
        rintro E W ⟨rfl, b4⟩
        have BW := hide (B3.out.trans (b4.mono B3.out.size))
        clear b4 SM hln
        have PS := hide (parse_any s W (by omega) (V0.out.below BW.out))
        go_wp2_with fail
        refine PS.out.mono ?_
        rintro E w5 ⟨v5, ev5, l5, p5, e5, rfl, own5, er5, pr5, b5⟩
        have B5 := hide (BW.out.trans (b5.mono BW.out.size))
        clear PS
        by_cases he5 : e5 = 0
        · subst he5
          obtain rfl := er5.nil
          obtain ⟨ok5, hn5, hl5, _⟩ := pres_ok pr5
          have OK5 := hide ok5
          have hz5 : (Sct.prn (l5.map Aw.a)).length ≤ 8001 := by rw [← Lib.size_eq] at hl5; omega
          have hn5' : l5.length ≤ 200 := by rw [List.length_map] at hn5; exact hn5
          have IS5 := hide own5.is
          have PL := hide (print_any v5 l5 w5 (V0.out.below B5.out) IS5.out (fun x hx => ok_fit (OK5.out x.a (List.mem_map_of_mem hx))) (by omega))
          clear er5 pr5 b5 own5 ok5 hl5
          go_wp2_with fail
          refine PL.out.mono ?_
          rintro E w6 ⟨s6, v6, p6, e6, rfl, er6, pr6, b6⟩
          obtain ⟨hs6, rfl⟩ := prr_is pr6 hn5 OK5.out (by omega)
          obtain rfl := er6.nil
          have B6 := hide (B5.out.trans (b6.mono B5.out.size))
          have IS6 := hide (IS5.out.below b6)
          have hz6 : s6.size ≤ 8001 := by rw [Lib.size_eq, hs6]; exact hz5
          have PS := hide (parse_any s6 w6 (by omega) (V0.out.below B6.out))
          have HS6 := hide hs6
          clear er6 pr6 b6 PL IS5 hs6
          go_wp2_with fail
          refine PS.out.mono ?_
          rintro E w7 ⟨v7, ev7, l7, p7, e7, rfl, own7, er7, pr7, b7⟩
          obtain ⟨hm7, rfl, rfl⟩ := Sct.pres_one pr7 (by rw [HS6.out]; exact pres_prn OK5.out hn5 (by omega))
          obtain rfl := er7.nil
          have B7 := hide (B6.out.trans (b7.mono B6.out.size))
          have IS7 := hide (IS6.out.below b7)
          have IB7 := hide own7.is
          have HM7 := hide hm7
          have hn7 : l7.length ≤ 200 := by have := congrArg List.length hm7; rw [List.length_map] at this; omega
          have PL := hide (print_any v7 l7 w7 (V0.out.below B7.out) IB7.out (fun x hx => ok_fit (OK5.out x.a (by rw [← HM7.out]; exact List.mem_map_of_mem hx))) (by omega))
          rw [hm7] at PL
          clear er7 pr7 b7 own7 hm7 PS IS6
          go_wp2_with fail
          refine PL.out.mono ?_
          rintro E w8 ⟨s8, v8, p8, e8, rfl, er8, pr8, b8⟩
          obtain ⟨hs8, rfl⟩ := prr_is pr8 hn5 OK5.out (by omega)
          obtain rfl := er8.nil
          obtain rfl : s8 = s6 := Sct.ba_ext (hs8.trans HS6.out.symm)
          have B8 := hide (B7.out.trans (b8.mono B7.out.size))
          have SM := hide (sames_yes v5 v7 l5 l7 w8 (IS7.out.below b8) (IB7.out.below b8) HM7.out.symm (fun x hx => (ok_fit (OK5.out x.a (List.mem_map_of_mem hx))).2.1) (by omega))
          clear er8 pr8 b8 PL IS7 IB7 hs8 hz5 hz6
          go_wp2_with fail
          refine SM.out.mono ?_
          rintro E w9 ⟨rfl, b9⟩
          have B9 := hide (B8.out.trans (b9.mono B8.out.size))
          clear b9 SM
          go_wp2
          go_ret
          exact ⟨rfl, B9.out⟩
        · obtain ⟨g5, rfl⟩ := er5.ptr he5
          have hm5 := pres_no pr5 he5
          obtain rfl : l5 = [] := List.map_eq_nil_iff.1 hm5
          obtain ⟨ob, od, rfl, _, _⟩ := own5.is.1.shape
          rw [show ([] : List Aw).length = 0 from rfl]
          clear er5 pr5 own5 b5 hm5
          go_wp2
          go_ret
          exact ⟨rfl, B5.out⟩
      · obtain ⟨g1, rfl⟩ := er1.ptr he1
        obtain ⟨W, hW⟩ : ∃ W, w2 = W := ⟨_, rfl⟩
        have BW := B2
        rw [hW] at BW ⊢
        clear er1 pr1 b2 B2 hW he1
        have PS := hide (parse_any s W (by omega) (V0.out.below BW.out))
        go_wp2_with fail
        refine PS.out.mono ?_
        rintro E w5 ⟨v5, ev5, l5, p5, e5, rfl, own5, er5, pr5, b5⟩
        have B5 := hide (BW.out.trans (b5.mono BW.out.size))
        clear PS
        by_cases he5 : e5 = 0
        · subst he5
          obtain rfl := er5.nil
          obtain ⟨ok5, hn5, hl5, _⟩ := pres_ok pr5
          have OK5 := hide ok5
          have hz5 : (Sct.prn (l5.map Aw.a)).length ≤ 8001 := by rw [← Lib.size_eq] at hl5; omega
          have hn5' : l5.length ≤ 200 := by rw [List.length_map] at hn5; exact hn5
          have IS5 := hide own5.is
          have PL := hide (print_any v5 l5 w5 (V0.out.below B5.out) IS5.out (fun x hx => ok_fit (OK5.out x.a (List.mem_map_of_mem hx))) (by omega))
          clear er5 pr5 b5 own5 ok5 hl5
          go_wp2_with fail
          refine PL.out.mono ?_
          rintro E w6 ⟨s6, v6, p6, e6, rfl, er6, pr6, b6⟩
          obtain ⟨hs6, rfl⟩ := prr_is pr6 hn5 OK5.out (by omega)
          obtain rfl := er6.nil
          have B6 := hide (B5.out.trans (b6.mono B5.out.size))
          have IS6 := hide (IS5.out.below b6)
          have hz6 : s6.size ≤ 8001 := by rw [Lib.size_eq, hs6]; exact hz5
          have PS := hide (parse_any s6 w6 (by omega) (V0.out.below B6.out))
          have HS6 := hide hs6
          clear er6 pr6 b6 PL IS5 hs6
          go_wp2_with fail
          refine PS.out.mono ?_
          rintro E w7 ⟨v7, ev7, l7, p7, e7, rfl, own7, er7, pr7, b7⟩
          obtain ⟨hm7, rfl, rfl⟩ := Sct.pres_one pr7 (by rw [HS6.out]; exact pres_prn OK5.out hn5 (by omega))
          obtain rfl := er7.nil
          have B7 := hide (B6.out.trans (b7.mono B6.out.size))
          have IS7 := hide (IS6.out.below b7)
          have IB7 := hide own7.is
          have HM7 := hide hm7
          have hn7 : l7.length ≤ 200 := by have := congrArg List.length hm7; rw [List.length_map] at this; omega
          have PL := hide (print_any v7 l7 w7 (V0.out.below B7.out) IB7.out (fun x hx => ok_fit (OK5.out x.a (by rw [← HM7.out]; exact List.mem_map_of_mem hx))) (by omega))
          rw [hm7] at PL
          clear er7 pr7 b7 own7 hm7 PS IS6
          go_wp2_with fail
          refine PL.out.mono ?_
          rintro E w8 ⟨s8, v8, p8, e8, rfl, er8, pr8, b8⟩
          obtain ⟨hs8, rfl⟩ := prr_is pr8 hn5 OK5.out (by omega)
          obtain rfl := er8.nil
          obtain rfl : s8 = s6 := Sct.ba_ext (hs8.trans HS6.out.symm)
          have B8 := hide (B7.out.trans (b8.mono B7.out.size))
          have SM := hide (sames_yes v5 v7 l5 l7 w8 (IS7.out.below b8) (IB7.out.below b8) HM7.out.symm (fun x hx => (ok_fit (OK5.out x.a (List.mem_map_of_mem hx))).2.1) (by omega))
          clear er8 pr8 b8 PL IS7 IB7 hs8 hz5 hz6
          go_wp2_with fail
          refine SM.out.mono ?_
          rintro E w9 ⟨rfl, b9⟩
          have B9 := hide (B8.out.trans (b9.mono B8.out.size))
          clear b9 SM
          go_wp2
          go_ret
          exact ⟨rfl, B9.out⟩
        · obtain ⟨g5, rfl⟩ := er5.ptr he5
          have hm5 := pres_no pr5 he5
          obtain rfl : l5 = [] := List.map_eq_nil_iff.1 hm5
          obtain ⟨ob, od, rfl, _, _⟩ := own5.is.1.shape
          rw [show ([] : List Aw).length = 0 from rfl]
          clear er5 pr5 own5 b5 hm5
          go_wp2
          go_ret
          exact ⟨rfl, B5.out⟩

end Go.Proofs.YtgcdibglkbfjdaaGreatDoor
