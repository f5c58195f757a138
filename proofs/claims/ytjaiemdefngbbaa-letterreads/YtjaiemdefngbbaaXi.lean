/- Bytes in a variable of their own, and what is put behind them: the contract of write's closure. -/
import Derived.Test.YtjaiemdefngbbaaXh
import Derived.Test.YtjaiemdefngbbaaA3
namespace Go.Proofs.Ytjaiemdefngbbaa
open Go.RowKit
set_option linter.unusedVariables false

/-- The variable in block g holds the bytes bs, in a block of their own that came later. -/
structure Buf (g : Nat) (w : World) (vb : Value) (bs : List Int) : Prop where
  box : w.heap[g]? = some (.cells #[vb] 22 (0, 0))
  own : Own .u8 5 (g + 1) w vb bs

/-- What putting bytes behind them leaves. -/
structure BS (g : Nat) (w : World) (vb : Value) (w' : World) (vb' : Value) (bs' : List Int) : Prop where
  buf : Buf g w' vb' bs'
  out : Out (fun i => i = g ∨ vb.ownBlock = some i) w w'
  at' : ∀ b, vb'.ownBlock = some b → vb.ownBlock = some b ∨ w.heap.size ≤ b

theorem Buf.lt {g : Nat} {w : World} {vb : Value} {bs : List Int} (h : Buf g w vb bs) : g < w.heap.size := blk_lt h.box

theorem Buf.below {g : Nat} {w w' : World} {vb : Value} {bs : List Int} (h : Buf g w vb bs) (hb : Below w.heap.size w w') : Buf g w' vb bs := ⟨(hb.block g h.lt).trans h.box, h.own.below hb⟩

theorem BS.refl {g : Nat} {w : World} {vb : Value} {bs : List Int} (h : Buf g w vb bs) : BS g w vb w vb bs := ⟨h, Out.refl _ _, fun b hb => .inl hb⟩

theorem BS.of_below {g : Nat} {w w' : World} {vb : Value} {bs : List Int} (h : Buf g w vb bs) (hb : Below w.heap.size w w') : BS g w vb w' vb bs := ⟨h.below hb, Out.of_below hb, fun b hb => .inl hb⟩

theorem BS.trans {g : Nat} {w w1 w2 : World} {v v1 v2 : Value} {b1 b2 : List Int} (h : BS g w v w1 v1 b1) (k : BS g w1 v1 w2 v2 b2) : BS g w v w2 v2 b2 := by
  have hs := h.out.size
  refine ⟨k.buf, h.out.trans k.out fun i hi => ?_, fun b hb => ?_⟩
  · rcases hi with rfl | hi
    · exact .inl (.inl rfl)
    · rcases h.at' i hi with e | e
      · exact .inl (.inr e)
      · exact .inr e
  · rcases k.at' b hb with e | e
    · exact h.at' b e
    · exact .inr (by omega)

theorem BS.below {g : Nat} {w w' : World} {v v' : Value} {bs bs' : List Int} (h : BS g w v w' v' bs') (hb : Buf g w v bs) : Below g w w' :=
  h.out.below (fun i hi => by
    rcases hi with rfl | hi
    · exact Nat.le_refl _
    · have := (hb.own.2.lt i hi).1; omega) (Nat.le_of_lt hb.lt)

theorem BS.stays {g : Nat} {w w' : World} {v v' : Value} {bs' : List Int} (h : BS g w v w' v' bs') {i : Nat} (hi : i < w.heap.size) (h1 : i ≠ g) (h2 : v.ownBlock ≠ some i) : w'.heap[i]? = w.heap[i]? :=
  h.out.block i hi fun k => k.elim h1 h2

/-- Bytes appended, and the variable written. -/
theorem bs_put {g : Nat} {w w4 w5 : World} {vb v' : Value} {bs ys : List Int} (h : Buf g w vb bs) (hb : Below w.heap.size w w4) (ho : Own .u8 5 (g + 1) w5 v' (bs ++ ys)) (hg : w4.grownBy w5 vb.ownBlock) (ha : v'.ownBlock = vb.ownBlock ∨ v'.ownBlock = some w4.heap.size) :
    BS g w vb (w5.setCell ⟨g, 0, none⟩ v') v' (bs ++ ys) ∧ w5.cell? ⟨g, 0, none⟩ = some vb ∧ w5.frozen? ⟨g, 0, none⟩ = false := by
  have hl := h.lt
  have hs := hb.size
  have hne : some g ≠ vb.ownBlock := fun e => by have := (h.own.2.lt g e.symm).1; omega
  have b5 : w5.heap[g]? = some (.cells #[vb] 22 (0, 0)) := (hg.block g (by omega) hne).trans ((hb.block g hl).trans h.box)
  refine ⟨⟨⟨set_cells b5 0 v', ?_⟩, ?_, ?_⟩, blk_cell b5 0 rfl, blk_froz b5 0⟩
  · refine ho.kept (grown_setCell w5 ⟨g, 0, none⟩ v') ?_
    cases e : v'.ownBlock with
    | none => exact .inl rfl
    | some b => exact .inr (by have := (ho.2.lt b e).1; simp; omega)
  · refine (Out.of_below (F := fun i => i = g ∨ vb.ownBlock = some i) hb).trans (G := fun i => i = g ∨ vb.ownBlock = some i) ?_ (fun i hi => .inl hi)
    refine (Out.of_grown (F := fun i => i = g ∨ vb.ownBlock = some i) hg (fun i hi => .inr hi)).trans (G := fun i => i = g) ?_ (fun i hi => .inl (.inl hi))
    exact Out.of_grown (grown_setCell w5 ⟨g, 0, none⟩ v') (fun i hi => by simpa using hi.symm)
  · intro b hbb
    rcases ha with e | e
    · exact .inl (by rw [← e]; exact hbb)
    · rw [e] at hbb
      simp at hbb
      exact .inr (by omega)

theorem Try.enters57 : ∀ args w, (callFunc 57 args).run Try.prog w = .ok (.enter 57 args) w := enters_of Try.func57 (by kernel_rfl) rfl

theorem encs_snoc (l : List Int) (k : Nat) (x : Int) (h : l[k]? = some x) : Pm.encs (l.take (k + 1)) = Pm.encs (l.take k) ++ Vm.enc x.toNat := by
  rw [List.take_add_one, h, Pm.encs_app]
  simp [Pm.encs]

theorem encs_take_len (l : List Int) (k : Nat) (h : ∀ z ∈ l, z < 18446744073709551616) : (Pm.encs (l.take k)).length ≤ 10 * l.length := by
  have h1 := (Pm.encs_len (l := l.take k) (fun z hz => h z (List.mem_of_mem_take hz))).1
  have : (l.take k).length ≤ l.length := List.length_take_le' _ _
  omega

theorem wrap_u64 {x : Int} (h0 : 0 ≤ x) (h1 : x < 18446744073709551616) : IntKind.u64.wrap x = x := by
  unfold IntKind.wrap
  simp [IntKind.bits, IntKind.signed]
  omega

set_option maxRecDepth 100000 in
set_option maxHeartbeats 1000000 in
theorem put_any (vz : Value) (zs : List Int) (g : Nat) (vb : Value) (bs : List Int) (w : World) (hz : Is .i64 w vz zs) (h0 : 0 < zs.length) (hp : ∀ z ∈ zs, 0 ≤ z) (hb : Buf g w vb bs) (hd : ∀ b, vz.ownBlock = some b → b ≠ g ∧ vb.ownBlock ≠ some b) (hl : bs.length + 10 * zs.length ≤ 100000000000000) :
    Calls Try.prog 56 #[vz, .pointer (some ⟨g, 0, none⟩)] w fun E w' => E = .returned (.tuple #[]) ∧ ∃ vb', BS g w vb w' vb' (bs ++ Pm.encs zs) := by
  obtain ⟨b1, o1, c1, hvz, hc1, hm1, hB1, hcell⟩ := hz.full h0
  have hd' := hd b1 (by rw [hvz]; rfl)
  have hw64 : ∀ z ∈ zs, z < 18446744073709551616 := fun z hzz => by
    have := range_i64 hz.1 (zs.idxOf z)
    have e : zs[zs.idxOf z]?.getD 0 = z := by
      have hlt := List.idxOf_lt_length_of_mem hzz
      rw [List.getElem?_eq_getElem hlt]
      simp
    rw [e] at this
    have h2 := this.2
    omega
  have HW := hide hw64
  have HP := hide hp
  have HCE := hide hcell
  have HB := hide hb
  have HX : Hid (BS g w vb w vb (bs ++ Pm.encs (zs.take 0))) := hide (by simpa [Pm.encs] using BS.refl hb)
  have HL := hide hl
  subst hvz
  generalize hn : zs.length = n at *
  have HN := hide hn
  have hn64 : n ≤ 10000000000000 := by omega
  clear hz hp hcell hb hd hl hn hw64
  go_enter Try.func56, Try.ntmps56
  go_wp2
  go_loopw [7] (fun i wr => ∃ (k : Nat) (v : Value), k ≤ n ∧ i = .int .i64 k ∧ Hid (BS g w vb wr v (bs ++ Pm.encs (zs.take k)))) (fun i _ => n - (intOf i).toNat)
  case atStart => exact ⟨0, vb, by omega, rfl, HX⟩
  case round =>
    obtain ⟨k, v, hk, rfl, HT⟩ := hrel
    have hbw := HT.out.buf
    by_cases hlt : k < n
    · obtain ⟨x, hx⟩ := at_of (l := zs) (k := k) (by have := HN.out; omega)
      have hxm := List.mem_of_getElem? hx
      have hx0 := HP.out x hxm
      have hx1 := HW.out x hxm
      have d0 : wr.cell? ⟨b1, o1 + k, none⟩ = some (.int .i64 x) := by
        have h1 := HCE.out k hlt
        rw [List.getD_eq_getElem?_getD, hx] at h1
        rw [World.cell?_of_block (HT.out.stays hB1 hd'.1 hd'.2)]
        exact h1
      have hlt' : (k : Int) < n := by omega
      have cb : wr.cell? ⟨g, 0, none⟩ = some v := blk_cell hbw.box 0 rfl
      have hwx := wrap_u64 hx0 hx1
      have hgl := hbw.lt
      have hsz := Vm.sz_le10 (x := x.toNat) (by omega)
      unfold Vm.sz at hsz
      have hlen : (bs ++ Pm.encs (zs.take k)).length + 10 ≤ 140737488355328 := by
        have h1 := encs_take_len zs k HW.out
        rw [HN.out] at h1
        have h2 := HL.out
        rw [List.length_append]
        omega
      have HLE := hide hlen
      have HE := hide (encs_snoc zs k x hx)
      have HBW := hide hbw
      clear hx hxm hbw hlen
      go_wp2_with fail
      go_region_law (first
        | (refine call_at rfl 57 #[.const (.slice none 0 0), .tmp 13] #[22, 81] rfl Try.enters57 #[.slice none 0 0, .int .u64 x] (by simp [Act.eval, Act.put]) ((app_any _ [] x _ (Is.nil _ _) (by simp) hx0 hx1).mono (by rintro E w' ⟨v', rfl, h⟩; exact ⟨v', rfl, h⟩)) ?_; rintro v4 w4 ⟨own4, bel4'⟩; have bel4 : Below wr.heap.size wr w4 := ((Below.refl _ _).drew).trans bel4'; have cb4 := (bel4.cell (p := ⟨g, 0, none⟩) hgl).trans cb; clear bel4')
        | (refine step_append_at rfl (.tmp 11) (.tmp 14) 22 rfl v v4 (by simp [Act.eval]) (by simp [Act.eval]) (fun ty => run_append_is_at (P := Try.prog) 22 ty .u8 5 (g + 1) 1 Try.underlying22 Try.info5 (by decide) _ _ (HBW.out.own.below bel4) _ _ own4.is (by rw [List.nil_append]; have := HLE.out; omega) (by have := bel4.size; omega)) ?_; rintro v5 w5 ⟨own5, gr5, at5⟩; rw [List.nil_append] at own5; obtain ⟨a5, l5, n5, hv5⟩ := own5.is.form; subst hv5; obtain ⟨hbs, cb5, fr5⟩ := bs_put HBW.out bel4 own5 gr5 at5; have HBS := hide hbs; clear hbs own5 gr5 at5))
      all_goals
        go_wp2
        go_roundw
        case rel => exact ⟨k + 1, _, by omega, by go_num, hide (by rw [HE.out, ← List.append_assoc]; exact HT.out.trans HBS.out)⟩
        case measure => simp [intOf]; omega
    · have hlt' : ¬ (k : Int) < n := by omega
      have HE : Hid (BS g w vb wr v (bs ++ Pm.encs zs)) := hide (by
        have := HT.out
        rw [List.take_of_length_le (by rw [HN.out]; omega)] at this
        exact this)
      clear HT hbw
      go_wp2
      go_end0
      exact ⟨rfl, v, HE.out⟩

end Go.Proofs.Ytjaiemdefngbbaa
