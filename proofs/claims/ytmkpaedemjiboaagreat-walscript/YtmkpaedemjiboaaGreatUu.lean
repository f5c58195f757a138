/- The law's pair: any call; what From and Starts answer stands apart. -/
import Derived.Test.YtmkpaedemjiboaaGreatUt
import Derived.Test.YtmkpaedemjiboaaGreatC4
namespace Go.Proofs.YtmkpaedemjiboaaGreat
open Go.RowKit
set_option linter.unusedVariables false

theorem pcall_any (w0 : World) (r : Nat) (w : World) (s : Wl.Ws) (p q x y : Nat) (F G : Nat → Prop) (h : PV w0 r w s s p q x y F G) (k : Nat) (hin : In k s) (hk : k ≤ 90) (a : Ac) (ha : AcOk w0 a) (hfit : FitO a.c.l ∧ a.c.l.length * 40 ≤ 140737488351232) :
    Calls Tryz.prog 9 #[.pointer (some ⟨r, 0, none⟩), acv a] w fun E w' => E = .returned (.bool true) ∧ PD w0 r q y k w' := by
  obtain ⟨h0, h1⟩ := pk_lt a.k 8 (by omega)
  have haw : AcOk w a := ha.below h.bel
  have hc : pk a.k 8 = 0 ∨ pk a.k 8 = 1 ∨ pk a.k 8 = 2 ∨ pk a.k 8 = 3 ∨ pk a.k 8 = 4 ∨ pk a.k 8 = 5 ∨ pk a.k 8 = 6 ∨ pk a.k 8 = 7 := by omega
  rcases hc with e | e | e | e | e | e | e | e
  · exact pcall0 w0 r w s p q x y F G h k hin hk a ha hfit e
  · exact pcall1 w0 r w s p q x y F G h k hin hk a ha hfit e
  · exact pcall2 w0 r w s p q x y F G h k hin hk a haw e
  · exact pcall3 w0 r w s p q x y F G h k hin hk a haw e
  · exact pcall4 w0 r w s p q x y F G h k hin hk a haw e
  · exact pcall5 w0 r w s p q x y F G h k hin hk a haw e
  · exact pcall6 w0 r w s p q x y F G h k hin hk a haw e
  · exact pcall7 w0 r w s p q x y F G h k hin hk a haw e

theorem frl_sixty (l : List Cm.Cv) (n : Int) : (frl l n 60).length ≤ 60 := by
  unfold frl
  split
  · simp
  · rw [List.length_take]
    show min 60 _ ≤ 60
    omega

theorem frl_owc {base : Nat} {w : World} {v : Value} {rs : List Cw} {l : List Cm.Cv} {n : Int} (hr : OwnR 37 base w v rs) (hc : CopyR base w rs) (he : cvs rs = frl l n 60) (ha : ApC rs) (hg : Cm.Good 0 0 l) : OwC base w v rs := by
  obtain ⟨i1, i2, i3⟩ := frl_isc hr.row hc he hg
  have hlen : rs.length ≤ 60 := by rw [← cvs_length, he]; exact frl_sixty l n
  refine ⟨hr, hc, fun c hd => (i1.2 c hd).2, ha, by omega, fun c hd => ?_, i2⟩
  have h1 : c.c ∈ cvs rs := by
    unfold cvs
    exact List.mem_map_of_mem hd
  rw [he] at h1
  obtain ⟨k, hk⟩ := List.getElem?_of_mem (frl_in h1)
  obtain ⟨_, _, _, _, h5⟩ := Cm.chk_zero (Cm.good_at l 0 0 k c.c hg hk).1
  have h6 := (Bm.chkL_zero h5).2.1
  have h7 : c.l.length ≤ 8 := h6
  omega

theorem listsS_uno {b b' : Nat} {w : World} {v1 v2 : Value} {l1 l2 : List Sm.S} (h1 : OwnS b w v1 l1) (h2 : OwnS b' w v2 l2) (hlt : ∀ g, v1.ownBlock = some g → g < b') (hl : l2.length ≤ 1048576) :
    ListsS 1 w.heap.size (w.alloc (.cells #[v2] 45)) v1 (fun _ => v2) (fun _ => l2) := by
  have bel : Below w.heap.size w (w.alloc (.cells #[v2] 45)) := (Below.refl _ _).alloc (Nat.le_refl _) _
  refine ⟨fun i hi => ?_, fun i hi => (OwnG.row h2).below bel, fun i hi g hg e => ?_, fun e => ?_, fun i hi => by omega⟩
  · have : i = 0 := by omega
    subst this
    simp
  · have := hlt g hg
    have := (OwnG.lt h2 g e).1
    omega
  · have := (OwnG.lt h1 _ e).2
    omega

section
variable {w0 W W3 W4 : World} {r p q x y : Nat} {s t : Wl.Ws} {F G : Nat → Prop} {v1 v2 : Value}

/-- What is new since W is written: the pair stays. -/
theorem PV.news {w w' : World} (h : PV w0 r W s t p q x y F G) (hb : Below W.heap.size W w) (ho : Out (fun g => W.heap.size ≤ g) w w') : PV w0 r w' s t p q x y F G :=
  (h.below hb).outside ho fun g e => ⟨fun hf => by have := h.ww.lt g hf; omega, fun hg => by have := h.xx.lt g hg; omega, fun hr => by have := blk_lt h.blk; omega, Nat.le_trans h.bel.size e⟩

theorem PV.apartC {r1 r2 : List Cw} (h : PV w0 r W s t p q x y F G) (h1 : OwC W.heap.size W3 v1 r1) (b1 : Below W.heap.size W W3) (h2 : OwC W3.heap.size W4 v2 r2) (b2 : Below W3.heap.size W3 W4) :
    Calls Tryz.prog 11 #[.slice (some ⟨W4.heap.size, 0, none⟩) 2 2] (W4.alloc (.cells #[v1, v2] 41)) fun E w' => E = .returned (.bool true) ∧ PV w0 r w' s t p q x y F G := by
  have b12 := b1.trans (b2.mono b1.size)
  refine (apart_pair (w0 := W) (h1.below b2) h2 b1.size (fun b hb => (World.ownsRow.lt h1.c b hb).2) (fun c hc b hb => (World.ownsRow.lt (h1.o c hc) b hb).2) (Nat.le_refl _) b12 b12.size).mono ?_
  rintro E w' ⟨rfl, _, ho⟩
  exact ⟨rfl, h.news b12 ho⟩

theorem PV.apartS {l1 l2 : List Sm.S} (h : PV w0 r W s t p q x y F G) (h1 : OwnS W.heap.size W3 v1 l1) (b1 : Below W.heap.size W W3) (h2 : OwnS W3.heap.size W4 v2 l2) (b2 : Below W3.heap.size W3 W4) (hl1 : l1.length ≤ 1000000) (hl2 : l2.length ≤ 1000000) :
    Calls Tryz.prog 13 #[v1, .slice (some ⟨W4.heap.size, 0, none⟩) 1 1] (W4.alloc (.cells #[v2] 45)) fun E w' => E = .returned (.bool true) ∧ PV w0 r w' s t p q x y F G := by
  have b12 := b1.trans (b2.mono b1.size)
  have belA : Below W4.heap.size W4 (W4.alloc (.cells #[v2] 45)) := (Below.refl _ _).alloc (Nat.le_refl _) _
  have s1 := ownS_below h1 b2
  have hsz := b12.size
  refine (apartS_keeps 1 W4.heap.size 1 W.heap.size v1 l1 _ _ _ (by omega) (by omega) (by simp; omega) (ownS_below s1 belA) (by omega) (listsS_uno s1 h2 (fun g e => (OwnG.lt h1 g e).2) (by omega)) (by omega)).mono ?_
  rintro E w' ⟨rfl, ho⟩
  exact ⟨rfl, h.news (b12.trans (belA.mono hsz)) (ho.mono fun g e => .inl (OwnG.lt h1 g e).1)⟩

end

end Go.Proofs.YtmkpaedemjiboaaGreat
