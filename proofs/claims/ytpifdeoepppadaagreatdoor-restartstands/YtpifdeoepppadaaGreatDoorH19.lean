/- Texts of one layer, one behind the other. -/
import Derived.Test.YtpifdeoepppadaaGreatDoorH9
import Derived.Test.YtpifdeoepppadaaGreatDoorH7
import Derived.Deep.RegionHeld3
import Derived.Test.YtpifdeoepppadaaGreatDoorG10
set_option maxRecDepth 100000
set_option maxHeartbeats 8000000
namespace Go.Proofs.YtpifdeoepppadaaGreatDoor
open Go.RowKit
set_option linter.unusedVariables false
theorem apE {s:Rst.St}(so:Sto.Ok (Rst.aZ s))(u:Int):s.l.drop (Cm.lastN 0 (Sto.aR (Rst.aZ s) u).2.r.l).toNat=(Sto.aR (Rst.aZ s) u).2.l:=by
 obtain⟨b1,b2,b3,b4⟩:=so.bound
 have hso:(Rst.aZ s).r.l=s.r:=rfl
 unfold Sto.aR
 split
 ·rfl
 rename_i h1
 split
 ·rfl
 split
 ·rfl
 split
 ·rename_i h4
  show s.l.drop (Cm.lastN 0 (Rl.aR (Rst.aZ s).r (Sto.eG (Rst.aZ s) u)).2.l).toNat=(Rst.aZ s).l
  rw[Sto.ahs h4]
  rfl
 ·rename_i h4
  show s.l.drop (Cm.lastN 0 (Rl.aR (Rst.aZ s).r (Sto.eG (Rst.aZ s) u)).2.l).toNat=(Rst.aZ s).l.drop (u-Cm.lastN 0 (Rst.aZ s).r.l).toNat
  rw[Sto.ab3 (by simpa using h4),Rl.dX]
  show s.l.drop u.toNat=(s.l.drop (Cm.lastN 0 s.r).toNat).drop (u-Cm.lastN 0 s.r).toNat
  rw[hso]at h1 b1
  rw[List.drop_drop]
  congr 1
  omega
theorem ai0 {t:Rl.Rs}{c:Cm.Cv}(h:t.bk=false)(h6:(Rl.aR t c).1≠6):(Rl.aR t c).2.bk=false:=by
 revert h6
 unfold Rl.aR
 split
 ·intro k;exact absurd rfl k
 split
 ·intro _;exact h
 split
 ·intro _;exact h
 split
 ·rename_i hx
  intro k
  exfalso
  revert k hx
  unfold Rl.ext
  split
  ·rename_i hw
   intro _ k
   rcases aia (st:=t.d) 2 (by omega) (Rl.fr c)with e|e
   ·exact hw e
   ·exact k e
  ·intro hx k
   rcases mJ (Dm.write t.d 2 (Rl.fr c)).2 with e|e
   ·exact hx e
   ·exact k e
 ·intro _;rfl
theorem atJ {t:Sto.Ss}{u:Int}(h:t.r.bk=false)(h6:(Sto.aR t u).1≠6):(Sto.aR t u).2.r.bk=false:=by
 revert h6
 unfold Sto.aR
 split
 ·intro _;exact h
 split
 ·intro _;exact h
 split
 ·intro _;exact h
 split
 ·intro k;exact ai0 h k
 ·rename_i hx
  intro _
  exact ai0 h (by simp at hx;rw[hx];decide)
theorem aat (p pr q:Nat)(F:Nat→Prop)(w:World)(sr:Rl.Rs)(u en:Int)(h11:w.cell? ⟨p,11,none⟩=some (.pointer (some ⟨pr,0,none⟩)))(h9:w.cell? ⟨p,9,none⟩=some (.int .i64 en))(h:RW pr q F w sr):
  Calls Tryz.prog 64 #[.pointer (some ⟨p,0,none⟩),.int .i64 u] w fun E w'=>E=.returned (.int .i64 (if u<Cm.lastN 0 sr.l∨en<u then 2 else 0))∧w=w':=by
 have HE:=hide (jH pr q F w sr h)
 clear h
 generalize Cm.lastN 0 sr.l=n at*
 by_cases h1:u<n
 ·rw[if_pos (.inl h1)]
  go_enter Tryz.func64,Tryz.ntmps64
  go_wp2_with fail
  refine HE.out.mono ?_
  rintro E w1 ⟨rfl,rfl⟩
  go_wp2
  go_ret
  exact⟨rfl,rfl⟩
 ·by_cases h2:en<u
  ·rw[if_pos (.inr h2)]
   go_enter Tryz.func64,Tryz.ntmps64
   go_wp2_with fail
   refine HE.out.mono ?_
   rintro E w1 ⟨rfl,rfl⟩
   go_wp2
   go_ret
   exact⟨rfl,rfl⟩
  ·rw[if_neg (by omega)]
   go_enter Tryz.func64,Tryz.ntmps64
   go_wp2_with fail
   refine HE.out.mono ?_
   rintro E w1 ⟨rfl,rfl⟩
   go_wp2
   go_ret
   exact⟨rfl,rfl⟩
theorem alA (g2 g3 p:Nat)(w:World)(u r:Int)(h2:w.cell? ⟨g2,0,none⟩=some (.pointer (some ⟨p,0,none⟩)))(h3:w.cell? ⟨g3,0,none⟩=some (.int .i64 u))(hs:Calls Tryz.prog 64 #[.pointer (some ⟨p,0,none⟩),.int .i64 u] w fun E w'=>E=.returned (.int .i64 r)∧w=w'):
  Calls Tryz.prog 63 #[.pointer (some ⟨g2,0,none⟩),.pointer (some ⟨g3,0,none⟩)] w fun E w'=>E=.returned (.int .i64 r)∧w=w':=by
 have PC:=hide hs
 clear hs
 go_enter Tryz.func63,Tryz.ntmps63
 go_wp2_with fail
 refine PC.out.mono ?_
 rintro E w' ⟨rfl,rfl⟩
 go_wp2
 go_ret
 exact⟨rfl,rfl⟩
theorem akc (g2 g3 p:Nat)(w:World)(r:Int)(h2:w.cell? ⟨g2,0,none⟩=some (.pointer (some ⟨p,0,none⟩)))(hs:Calls Tryz.prog 56 #[.pointer (some ⟨p,0,none⟩),.func (.func 66) #[] #[.pointer (some ⟨g3,0,none⟩)]] w fun E w'=>E=.returned (.int .i64 r)∧Below w.heap.size w w'):
  Calls Tryz.prog 65 #[.pointer (some ⟨g2,0,none⟩),.pointer (some ⟨g3,0,none⟩)] w fun E w'=>E=.returned (.int .i64 r)∧Below w.heap.size w w':=by
 have qf:∀(fn:Fn) (first cap:Array Value) (w:World),(Instr.makeFunc fn first cap).run Tryz.prog w=.ok (.func fn first cap) w:=fun _ _ _ _=>rfl
 have PC:=hide hs
 clear hs
 go_enter Tryz.func65,Tryz.ntmps65
 go_wp2_with fail
 refine PC.out.mono ?_
 rintro E w' ⟨rfl,b⟩
 have B:=hide b
 clear b PC
 go_wp2
 go_ret
 exact⟨rfl,B.out⟩
theorem alr (g2 g3 p ps:Nat)(w:World)(u r:Int)(X:World→Prop)(h2:w.cell? ⟨g2,0,none⟩=some (.pointer (some ⟨p,0,none⟩)))(h3:w.cell? ⟨g3,0,none⟩=some (.int .i64 u))(h12:w.cell? ⟨p,12,none⟩=some (.pointer (some ⟨ps,0,none⟩)))(hs:Calls Tryz.prog 68 #[.pointer (some ⟨ps,0,none⟩),.int .i64 u] w.drew fun E w'=>E=.returned (.int .i64 r)∧X w')(hX:∀w',X w'→w'.cell? ⟨g2,0,none⟩=some (.pointer (some ⟨p,0,none⟩))∧w'.cell? ⟨g3,0,none⟩=some (.int .i64 u)∧w'.cell? ⟨p,12,none⟩=some (.pointer (some ⟨ps,0,none⟩))):
  Calls Tryz.prog 67 #[.pointer (some ⟨g2,0,none⟩),.pointer (some ⟨g3,0,none⟩)] w fun E w'=>E=.returned (.int .i64 r)∧X w':=by
 have PC:=hide hs
 have HX:=hide hX
 clear hs hX
 go_enter Tryz.func67,Tryz.ntmps67
 go_wp2_with fail
 go_region_held3 (fun w'=>w'.cell? ⟨g2,0,none⟩=some (.pointer (some ⟨p,0,none⟩))∧w'.cell? ⟨g3,0,none⟩=some (.int .i64 u)∧w'.cell? ⟨p,12,none⟩=some (.pointer (some ⟨ps,0,none⟩))) (first|exact⟨h2,h3,h12⟩|exact hK|go_keep)
  (first
  |(go_at_call 68;refine PC.out.mono ?_;rintro E w' ⟨rfl,k⟩;have hK:=HX.out _ k;have K:=hide k;clear k))
 go_wp2
 go_ret
 exact⟨rfl,K.out⟩
theorem qm (p q:Nat)(F:Nat→Prop)(w:World)(s:Rst.St)(h:PS p q F w s)(hR:yf s)(h3:T3 s.d∧¬F 0)(u:Int)(hu:In64 u):Calls Tryz.prog 12 #[.pointer (some ⟨p,0,none⟩),.int .i64 u] w fun E w'=>E=.returned (.int .i64 (Rst.aR s u).1)∧iA p q F w w' (Rst.aR s u).2:=by
 have qf:∀(fn:Fn) (first cap:Array Value) (w:World),(Instr.makeFunc fn first cap).run Tryz.prog w=.ok (.func fn first cap) w:=fun _ _ _ _=>rfl
 obtain⟨w1,hw1,s1,b1,P1⟩:=ay w #[.pointer (some ⟨p,0,none⟩)] 25
 obtain⟨w2,hw2,s2,b2,P2⟩:=ay w1 #[.int .i64 u] 3
 obtain⟨w3,hw3,s3,b3,P3⟩:=ay w2 #[.func (.func 51) #[.pointer (some ⟨p,0,none⟩)] #[],.func (.func 63) #[] #[.pointer (some ⟨w.heap.size,0,none⟩),.pointer (some ⟨w.heap.size+1,0,none⟩)],.func (.func 65) #[] #[.pointer (some ⟨w.heap.size,0,none⟩),.pointer (some ⟨w.heap.size+1,0,none⟩)],.func (.func 67) #[] #[.pointer (some ⟨w.heap.size,0,none⟩),.pointer (some ⟨w.heap.size+1,0,none⟩)]] 134
 have z2:w2.heap.size=w.heap.size+2:=by omega
 have z3:w3.heap.size=w.heap.size+3:=by omega
 rw[s1]at P2
 rw[z2]at P3
 have fH:Below w.heap.size w w3:=(b1.trans (b2.mono (by omega))).trans (b3.mono (by omega))
 have c2:w2.cell? ⟨w.heap.size,0,none⟩=some (.pointer (some ⟨p,0,none⟩)):=ai ((b2.block _ (by omega)).trans P1) 0 rfl
 have t3:=(b3.block _ (by omega)).trans ((b2.block _ (by omega)).trans P1)
 have u3:=(b3.block _ (by omega)).trans P2
 have qY:=h.below fH
 have RUN:Run (w.heap.size+2) (QS p q F w (Rst.aR s u)) [.func (.func 51) #[.pointer (some ⟨p,0,none⟩)] #[],.func (.func 63) #[] #[.pointer (some ⟨w.heap.size,0,none⟩),.pointer (some ⟨w.heap.size+1,0,none⟩)],.func (.func 65) #[] #[.pointer (some ⟨w.heap.size,0,none⟩),.pointer (some ⟨w.heap.size+1,0,none⟩)],.func (.func 67) #[] #[.pointer (some ⟨w.heap.size,0,none⟩),.pointer (some ⟨w.heap.size+1,0,none⟩)]] w3:=by
  refine wU qY (iA.same h fH) (fun k=>by unfold Rst.aR;rw[if_pos k]) fun gu=>?_
  have hon:s.d.on=true:=by
   unfold Rst.asked at gu
   revert gu
   cases s.d.on<;>simp
  have hoff:s.off=false:=by
   unfold Rst.asked at gu
   revert gu
   cases s.off<;>simp
  obtain⟨F1,G,h1,⟨pw,pr,ps,Gw,Gr,Gs,lw,bw,br,V,rfl⟩,hd,hm,rfl⟩:=qY
  obtain⟨rfl,rfl,rfl⟩:=V.live hoff
  refine Run.cons (enters_of Tryz.func63 (by kernel_rfl) rfl) (by simp) ((alA _ _ p w3 u _ (ai t3 0 rfl) (ai u3 0 rfl) (aat p pr q _ w3 _ u _ (ai V.blk 11 rfl) (ai V.blk 9 rfl) (V.rw h1))).mono ?_)
  rintro E w4 ⟨rfl,rfl⟩
  refine⟨_,rfl,rfl,?_⟩
  simp only
  by_cases hx:u<Cm.lastN 0 s.r∨(s.l.length:Int)<u
  ·rw[if_pos hx]
   exact .inl ⟨by decide,QS.no (s1:=s) (by unfold Rst.aR;rw[if_neg (by simp[gu]),if_pos hx]) (by decide) (iA.same h fH)⟩
  rw[if_neg hx]
  refine .inr ⟨rfl,?_⟩
  have hb:=V.blk
  have SC:=ym p q pw pr _ _ w3 _ _ _ _ _ _ hb (V.ww h1) (V.rw h1) 66 #[.pointer (some ⟨w.heap.size+1,0,none⟩)] (enters_of Tryz.func66 (by kernel_rfl) rfl) s.p _ _ _ (Rst.hf 3 s.d).length (an6 w3 p (w.heap.size+1) s.p _ _ _ u u3) (fun _=>akX p q F1 w3 s.d h1 hR.1 (ai hb 0 rfl) (aA hb) hon h3.1)
  simp only at SC
  rw[zx V.ok]at SC
  refine Run.cons (enters_of Tryz.func65 (by kernel_rfl) rfl) (by simp) ((akc _ _ p w3 _ (ai t3 0 rfl) SC).mono ?_)
  rintro E w5 ⟨rfl,b5⟩
  have oH:=fH.trans (b5.mono (by omega))
  have z5:=b5.size
  refine⟨_,rfl,b5.block _ (by omega),?_⟩
  have hfi:Rst.fine s s.p s.l u=Rst.snd s.p s.l u (Rst.hf 3 s.d).length:=rfl
  cases hsn:Rst.snd s.p s.l u (Rst.hf 3 s.d).length with
  |false=>
   rw[if_neg (by simp)]
   exact .inl ⟨by decide,QS.no (s1:=s) (by unfold Rst.aR;rw[if_neg (by simp[gu]),if_neg hx,if_pos (hfi.trans hsn)]) (by decide) (iA.same h oH)⟩
  |true=>
   rw[if_pos rfl]
   refine .inr ⟨rfl,?_⟩
   have hr:Rst.aR s u=((Sto.aR (Rst.aZ s) u).1,⟨(Sto.aR (Rst.aZ s) u).2.r.d,s.p,s.l,(Sto.aR (Rst.aZ s) u).2.r.l,s.off||decide ((Sto.aR (Rst.aZ s) u).1=6)⟩):=by
    unfold Rst.aR
    rw[if_neg (by simp[gu]),if_neg hx,if_neg (by rw[hfi,hsn];simp)]
   have V5:=V.below b5
   have h15:=h1.below b5
   have hm5:=hm.below b5
   have hse:(⟨⟨s.d,s.r,false⟩,s.l.drop (Cm.lastN 0 s.r).toNat⟩:Sto.Ss)=Rst.aZ s:=by unfold Rst.aZ;rw[hoff]
   have so:Sto.Ok (Rst.aZ s):=by rw[←hse];exact⟨V.good,V.rest⟩
   have hd5:Below w5.heap.size w5 w5.drew:=(Below.refl _ _).drew
   have hS:=(V5.below hd5).sw (h15.below hd5) hd
   rw[hse]at hS
   have hlr:(Rst.aZ s).l.length≤100000:=by
    have:=hR.2
    show(s.l.drop _).length≤_
    rw[List.length_drop]
    omega
   have Fv:=ak5 ps pr q _ w5.drew (Rst.aZ s) u hS (hR.1.mono (by decide) (by decide)) hu hlr
   have e1:=apE so u
   obtain⟨e2,_,e3⟩:=Sto.afX so u
   have e4:(Sto.aR (Rst.aZ s) u).1≠6→(Sto.aR (Rst.aZ s) u).2.r.bk=false:=atJ (by rw[←hse])
   have e5:Sto.fin (Rst.aZ s)=s.l.length:=by
    have:=V.le
    obtain⟨b1,_⟩:=so.bound
    show Cm.lastN 0 s.r+((s.l.drop (Cm.lastN 0 s.r).toNat).length:Int)=_
    rw[List.length_drop]
    have:0≤Cm.lastN 0 s.r:=b1
    omega
   rw[e5]at e3
   generalize Sto.aR (Rst.aZ s) u=t at*
   obtain⟨ee,t⟩:=t
   simp only at*
   have lt5:∀g,F1 g∨PB p Gw Gr Gs g→g<w5.heap.size:=fun g hg=>by
    rcases hg with e|e
    ·exact h15.lt g e
    ·exact V5.lt g e
   have nS:∀g,g=p∨Gw g→¬((F1 g∨Gr g)∨Gs g):=by
    rintro g (rfl|e) ((k|k)|k)
    ·exact hd _ (.inl rfl) k
    ·exact V.np.2.1 k
    ·exact V.np.2.2 k
    ·exact hd _ (.inr (.inl e)) k
    ·exact V.wr g e k
    ·exact V.ws g e k
   have jD:∀g,F1 g∨PB p Gw Gr Gs g→g<w.heap.size:=fun g hg=>h.lt g hg
   have hX:∀w',kG ps pr q (fun g=>(F1 g∨Gr g)∨Gs g) w5.drew w' t→w'.heap[p]? =w5.heap[p]?∧∀g,w.heap.size≤g→g<w5.heap.size→w'.heap[g]? =w5.heap[g]? :=by
    rintro w' ⟨_,_,k,_⟩
    refine⟨k.block p (lt5 p (.inr (.inl rfl))) (nS p (.inl rfl)),fun g h1 h2=>k.block g h2 ?_⟩
    rintro((e|e)|e)
    ·have:=jD g (.inl e);omega
    ·have:=jD g (.inr (.inr (.inr (.inl e))));omega
    ·have:=jD g (.inr (.inr (.inr (.inr e))));omega
   have t5:=(b5.block _ (by omega)).trans t3
   have u5:=(b5.block _ (by omega)).trans u3
   refine Run.cons (enters_of Tryz.func67 (by kernel_rfl) rfl) (by simp) ((alr _ _ p ps w5 u _ _ (ai t5 0 rfl) (ai u5 0 rfl) (ai V5.blk 12 rfl) Fv (fun w' k=>⟨ai (((hX w' k).2 _ (by omega) (by omega)).trans t5) 0 rfl,ai (((hX w' k).2 _ (by omega) (by omega)).trans u5) 0 rfl,ai ((hX w' k).1.trans V5.blk) 12 rfl⟩)).mono ?_)
   rintro E w6 ⟨rfl,k⟩
   refine⟨_,rfl,(hX w6 k).2 _ (by omega) (by omega),?_⟩
   have acW:=(hX w6 k).1.trans V5.blk
   obtain⟨Fv',⟨FR',rW,⟨kM,ry,k1,k2,rfl⟩,k3,k4,k5,rfl⟩,o,n⟩:=k
   have o:Out (fun g=>(F1 g∨Gr g)∨Gs g) w5 w6:=(Out.of_below hd5).trans o fun g hg=>.inl hg
   have n:∀g,(kM g∨ry g)∨rW g→((F1 g∨Gr g)∨Gs g)∨w5.heap.size≤g:=n
   have ah1:Wk pw q Gw w6 s.l false:=V5.wal.out o fun g hg=>nS g (.inr hg)
   have far:∀g,g=p∨Gw g→¬((kM g∨ry g)∨rW g):=fun g hg e=>by
    rcases n g e with e|e
    ·exact nS g hg e
    ·have:=lt5 g (.inr (hg.elim .inl fun e=>.inr (.inl e)));omega
   have m6:ib w6:=gm hm5 o (by
    rintro((e|e)|e)
    ·exact h3.2 (.inl e)
    ·exact h3.2 (.inr (.inr (.inr (.inl e))))
    ·exact h3.2 (.inr (.inr (.inr (.inr e)))))
   have dis:∀g,PB p Gw ry rW g→¬kM g:=by
    rintro g (rfl|e|e|e) k
    ·exact far g (.inl rfl) (.inl (.inl k))
    ·exact far g (.inr e) (.inl (.inl k))
    ·exact tT k2 k1 g e k
    ·exact k4 g e (.inl k)
   have asQ:Cm.Good 1 (Cm.lastN 0 t.r.l) (s.l.drop (Cm.lastN 0 t.r.l).toNat):=by rw[e1];exact e2.rest
   have le6:Cm.lastN 0 t.r.l≤s.l.length:=by
    have:Cm.lastN 0 t.r.l+(t.l.length:Int)=s.l.length:=e3
    omega
   have oF:Out (fun g=>F1 g∨PB p Gw Gr Gs g) w w6:=(Out.of_below oH).trans o fun g hg=>by
    rcases hg with(e|e)|e
    ·exact .inl (.inl e)
    ·exact .inl (.inr (.inr (.inr (.inl e))))
    ·exact .inl (.inr (.inr (.inr (.inr e))))
   have nF:∀g,kM g∨PB p Gw ry rW g→(F1 g∨PB p Gw Gr Gs g)∨w.heap.size≤g:=by
    have n':∀g,(kM g∨ry g)∨rW g→(F1 g∨PB p Gw Gr Gs g)∨w.heap.size≤g:=fun g e=>by
     rcases n g e with((e|e)|e)|e
     ·exact .inl (.inl e)
     ·exact .inl (.inr (.inr (.inr (.inl e))))
     ·exact .inl (.inr (.inr (.inr (.inr e))))
     ·exact .inr (by omega)
    rintro g (e|e|e|e|e)
    ·exact n' g (.inl (.inl e))
    ·exact .inl (.inr (.inl e))
    ·exact .inl (.inr (.inr (.inl e)))
    ·exact n' g (.inl (.inr e))
    ·exact n' g (.inr e)
   rw[←e1]at k3
   by_cases h6:ee=6
   ·subst h6
    refine .inl ⟨by decide,by rw[hr],fun k=>absurd rfl k,fun _=>⟨?_,_,_,acW,rfl⟩⟩
    have oZ:Out (fun g=>g=p) w6 (w6.setCell ⟨p,1,none⟩ (.bool true)):=Out.aT (aC w6 ⟨p,1,none⟩ (.bool true)) fun i hi=>by simpa using hi.symm
    have pz:(w6.setCell ⟨p,1,none⟩ (.bool true)).heap[p]? =some (.cells (fw q true s.p (.pointer (some ⟨pw,0,none⟩)) s.l.length (.pointer (some ⟨pr,0,none⟩)) (.pointer (some ⟨ps,0,none⟩))) 60 (0,0)):=aL acW 1 (.bool true)
    generalize w6.setCell ⟨p,1,none⟩ (.bool true)=Z at*
    rw[hr]
    have fp:=far p (.inl rfl)
    have hp0:p≠0:=acB hm5 V5.blk rfl
    have h1z:Pk q kM Z t.r.d:=k1.agree fun g hg=>oZ.block g (k1.lt g hg) fun e=>fp (.inl (.inl (e▸hg)))
    exact⟨_,⟨kM,PB p Gw ry rW,h1z,⟨pw,pr,ps,Gw,ry,rW,s.l,false,t.r.bk,⟨by rw[hoff];exact pz,ah1.out oZ fun g hg e=>V.np.1 (e▸hg),k2.out oZ fun g hg e=>fp (.inl (.inr (e▸hg))),k3.out oZ fun g hg e=>fp (.inr (e▸hg)),by simp,fun e=>absurd e (by simp),V.ok,V.fit,asQ,le6,⟨V.np.1,fun e=>fp (.inl (.inr e)),fun e=>fp (.inr e)⟩,fun g hg e=>far g (.inr hg) (.inl (.inr e)),fun g hg e=>far g (.inr hg) (.inr e),fun g hg e=>k4 g e (.inr hg)⟩,rfl⟩,dis,gm m6 oZ fun e=>hp0 e.symm,rfl⟩,oF.trans oZ fun g hg=>by rw[hg];exact .inl (.inr (.inl rfl)),nF⟩
   ·have PSN:iA p q (fun g=>F1 g∨PB p Gw Gr Gs g) w w6 ⟨t.r.d,s.p,s.l,t.r.l,s.off⟩:=
     ⟨_,⟨kM,PB p Gw ry rW,k1,⟨pw,pr,ps,Gw,ry,rW,s.l,false,t.r.bk,⟨acW,ah1,k2,k3,by simp,fun _=>⟨rfl,rfl,e4 h6⟩,V.ok,V.fit,asQ,le6,⟨V.np.1,fun e=>far p (.inl rfl) (.inl (.inr e)),fun e=>far p (.inl rfl) (.inr e)⟩,fun g hg e=>far g (.inr hg) (.inl (.inr e)),fun g hg e=>far g (.inr hg) (.inr e),fun g hg e=>k4 g e (.inr hg)⟩,rfl⟩,dis,m6,rfl⟩,oF,nF⟩
    have hr':Rst.aR s u=(ee,⟨t.r.d,s.p,s.l,t.r.l,s.off⟩):=by rw[hr];simp[h6]
    by_cases h0:ee=0
    ·subst h0
     exact .inr ⟨rfl,QS.no hr' (by decide) PSN⟩
    ·exact .inl ⟨h0,QS.no hr' h6 PSN⟩
 have HC:=hide (zo (n:=4) rfl (by omega) P3 RUN)
 generalize Rst.aR s u=r at*
 clear RUN h hR h3 hu b1 b2 b3 P1 P2 P3 s2 s3 z3 fH t3 u3 qY
 go_enter Tryz.func12,Tryz.ntmps12
 go_wp2_with fail
 refine HC.out.mono ?_
 rintro E w' ⟨rfl,X⟩
 have X:=hide X
 clear HC
 go_wp2
 go_ret
 exact⟨rfl,X.out⟩
theorem sQ.out {pw q:Nat}{FW:Nat→Prop}{w wr:World}{l cs:List Cm.Cv}{d:Dm.Ds}{k:Nat}(h:sQ pw q FW w wr l cs d k):Out FW w wr:=by
 obtain⟨_,_,_,h,_⟩:=h
 exact h
theorem aiv (a:Addr)(b:Option Addr)(k:Nat)(w:World):
  Calls Tryz.prog 60 #[.pointer (some a),.slice b 0 k] w fun E w'=>E=.returned (.int .i64 0)∧w=w':=by
 go_enter Tryz.func60,Tryz.ntmps60
 go_wp2
 go_ret
 exact⟨rfl,rfl⟩
theorem amJ (a:Addr)(b:Option Addr)(k:Nat)(w:World):
  Calls Tryz.prog 62 #[.pointer (some a),.slice b 0 k] w fun E w'=>E=.returned (.int .i64 0)∧w=w':=by
 go_enter Tryz.func62,Tryz.ntmps62
 go_wp2_with fail
 go_loopw [10] (fun iv wr=>iv=.int .i64 0∧w=wr) (fun _ _=>0)
 case atStart=>exact⟨rfl,rfl⟩
 case round=>
  obtain⟨rfl,rfl⟩:=hrel
  go_wp2
  go_ret
  exact⟨rfl,rfl⟩
theorem ak9 (p q pw:Nat)(FW:Nat→Prop)(w:World)(off:Bool)(x:Pm.Pg)(vr vs:Value)(d:Dm.Ds)(l:List Cm.Cv)(v:Value)(rs:List Cw)(hb:w.heap[p]? =some (.cells (fw q off x (.pointer (some ⟨pw,0,none⟩)) l.length vr vs) 60 (0,0)))(hw:WW pw q FW w ⟨d,l,false⟩)(hpW:¬FW p)(hB:Big 50000000 500000 d)(hll:l.length≤2000)
  (hg:Cm.Good (Cm.lastE 0 l) l.length (aD rs)) (hn:rs.length≤100) (h0:0<rs.length) (hc:∀W,Out FW w W→fJ W v rs) (hf:fF rs) (jB:∀c∈rs,0<c.l.length→∀b,c.v.ownBlock=some b→b<w.heap.size∧¬FW b):
  Calls Tryz.prog 60 #[.pointer (some ⟨p,8,none⟩),v] w fun E w'=>E=.returned (.int .i64 (Rst.fK d (aD rs)).1)∧∃W,ExO pw q FW w W l (aD rs) d∧((Rst.fK d (aD rs)).1≠0∧w'=W∨(Rst.fK d (aD rs)).1=0∧w'=W.setCell ⟨p,9,none⟩ (.int .i64 (l.length+rs.length))):=by
 have hl:Cm.Good 0 0 l:=hw.good
 have hpl:=aA hb
 obtain⟨b1,o1,k1,rfl,_,_⟩:=jG (hc w (Out.refl _ _)) h0
 have l7:Hid (∀W,Out FW w W→∀i c,rs[i]? =some c→W.cell? ⟨b1,o1+i*3,none⟩=some (.int .i64 c.e)∧W.cell? ⟨b1,o1+i*3+1,none⟩=some (.int .i64 c.n)∧W.cell? ⟨b1,o1+i*3+2,none⟩=some c.v):=hide fun W hW=>by
  obtain⟨b2,o2,k2,e,_,h⟩:=jG (hc W hW) h0
  cases e
  exact h
 have HPB:Hid (∀W,Out FW w W→W.heap[p]? =some (.cells (fw q off x (.pointer (some ⟨pw,0,none⟩)) l.length vr vs) 60 (0,0))):=hide fun W hW=>(hW.block p hpl hpW).trans hb
 have I0:Hid (sQ pw q FW w w l (aD rs) d 0):=hide ⟨FW,d,by rw[List.take_zero,List.append_nil];exact hw,Out.refl _ _,fun g hg=>.inl hg,by rw[List.drop_zero],hB.mono (by omega) (by omega)⟩
 have RD:Hid (∀k (hk:k<rs.length) V,sQ pw q FW w V l (aD rs) d k→Calls Tryz.prog 119 #[.pointer (some ⟨pw,0,none⟩),cZ (rs[k]).e (rs[k]).n (rs[k]).v] V fun E w'=>∃e,E=.returned (.int .i64 e)∧Out FW w w'∧((e=0∧sQ pw q FW w w' l (aD rs) d (k+1))∨(e≠0∧e=(Rst.fK d (aD rs)).1∧ExO pw q FW w w' l (aD rs) d))):=hide fun k hk V h=>anm _ pw q FW w V l rs d k hk h hl hg hn (hc V h.out) hf jB
 have hcl:(aD rs).length=rs.length:=by unfold aD;simp
 have SY:Hid (∀V,sQ pw q FW w V l (aD rs) d rs.length→Calls Tryz.prog 120 #[.pointer (some ⟨pw,0,none⟩)] V fun E w'=>E=.returned (.int .i64 (Rst.fK d (aD rs)).1)∧ExO pw q FW w w' l (aD rs) d):=hide fun V h=>aqi pw q FW w V l (aD rs) d (by rw[hcl];exact h) (by rw[hcl];exact hn)
 have SH:Hid (∀c∈rs,∃a n k,c.v=.slice a n k):=hide fun c hm=>by
  rcases((hc w (Out.refl _ _)).2 c hm).1 with⟨h,_⟩|⟨a,k,h,_⟩
  ·exact⟨_,_,_,h⟩
  ·exact⟨_,_,_,h⟩
 have EX:Hid (∀W,ExO pw q FW w W l (aD rs) d→Out FW w W):=hide (by rintro W ⟨_,_,_,_,_,_,h,_⟩;exact h)
 obtain⟨ee,qU⟩:∃ee,(Rst.fK d (aD rs)).1=ee:=⟨_,rfl⟩
 rw[qU]at RD SY⊢
 have alz:¬(rs.length:Int)=0:=by omega
 have hz:((rs.length:Int)==0)=false:=by simpa using alz
 have hwr:IntKind.i64.wrap ((l.length:Int)+(rs.length:Int))=(l.length:Int)+(rs.length:Int):=aN _ (by omega) (by omega)
 generalize (l.length:Int)=le at*
 clear hw hb hB hc hf jB hg hl qU hcl alz
 go_enter Tryz.func60,Tryz.ntmps60
 go_wp2_with fail
 go_loopw [14] (fun iv wr=>∃(k:Nat),iv=.int .i64 k∧k≤rs.length∧Hid (sQ pw q FW w wr l (aD rs) d k)) (fun iv _=>rs.length-(intOf iv).toNat)
 case atStart=>exact⟨0,rfl,Nat.zero_le _,I0⟩
 case round=>
  obtain⟨k,rfl,hk,IK⟩:=hrel
  by_cases hlt:k<rs.length
  ·obtain⟨c,hcc⟩:∃c,rs[k]=c:=⟨_,rfl⟩
   obtain⟨a0,a1,a2⟩:=l7.out wr IK.out.out k c (by rw[List.getElem?_eq_getElem hlt,hcc])
   obtain⟨va,vn,vk,hv⟩:=SH.out c (by rw[←hcc];exact List.getElem_mem hlt)
   rw[hv]at a2
   obtain⟨V,hV,hV',sV,bV,PV,v0,v1,v2⟩:=dO wr 32 (.int .i64 0) (.int .i64 0) (.slice none 0 0) (.int .i64 c.e) (.int .i64 c.n) (.slice va vn vk)
   have IV:=IK.out.box bV
   have AP:=RD.out k hlt V.drew (IV.box (Below.refl _ _).drew)
   rw[hcc,hv]at AP
   unfold cZ at AP
   have d8:V.cell? ⟨p,8,none⟩=some (.pointer (some ⟨pw,0,none⟩)):=ai (HPB.out V IV.out) 8 rfl
   have AP2:Hid (Calls Tryz.prog 119 #[.pointer (some ⟨pw,0,none⟩),.agg #[.int .i64 c.e,.int .i64 c.n,.slice va vn vk]] V.drew fun E w'=>∃e,E=.returned (.int .i64 e)∧w'.cell? ⟨p,8,none⟩=some (.pointer (some ⟨pw,0,none⟩))∧Hid ((e=0∧sQ pw q FW w w' l (aD rs) d (k+1))∨(e≠0∧e=ee∧ExO pw q FW w w' l (aD rs) d))):=hide (by
    refine AP.mono ?_
    rintro E w' ⟨e,rfl,o,h⟩
    exact⟨e,rfl,ai (HPB.out w' o) 8 rfl,hide h⟩)
   have hlt':(k:Int)<rs.length:=by omega
   clear AP IV hcc hv PV bV sV IK
   go_wp2_with fail
   go_region_with (go_at_call 119;refine AP2.out.mono ?_;rintro E w' ⟨e,rfl,e8,H⟩)
   all_goals
    clear AP2
    by_cases he:e=0
    ·subst he
     have H:=hide (H.out.resolve_right fun k=>k.1 rfl).2
     go_wp2
     go_roundw
     case rel=>exact⟨k+1,by simp,by omega,H⟩
     case measure=>simp[intOf];omega
    ·obtain⟨rfl,hX⟩:=(H.out.resolve_left fun k=>he k.1).2
     have he':(e==0)=false:=by simpa using he
     have HX:=hide (And.intro he hX)
     clear hX H
     go_wp2
     go_ret
     exact⟨rfl,_,HX.out.2,.inl ⟨HX.out.1,rfl⟩⟩
  ·obtain rfl:k=rs.length:=by omega
   have SY2:=hide (SY.out wr IK.out)
   have d8:wr.cell? ⟨p,8,none⟩=some (.pointer (some ⟨pw,0,none⟩)):=ai (HPB.out wr IK.out.out) 8 rfl
   have hlt':¬(rs.length:Int)<rs.length:=by omega
   clear SY RD l7 IK SH I0 hlt hk
   go_wp2_with fail
   refine SY2.out.mono ?_
   rintro E w2 ⟨rfl,hX⟩
   have pb:=HPB.out w2 (EX.out _ hX)
   have d9:w2.cell? ⟨p,9,none⟩=some (.int .i64 le):=ai pb 9 rfl
   have f9:=az pb 9
   have HX:=hide hX
   clear hX SY2 pb
   by_cases he:ee=0
   ·subst he
    go_wp2
    go_ret
    exact⟨rfl,w2,HX.out,rfl⟩
   ·have he':(ee==0)=false:=by simpa using he
    go_wp2
    go_ret
    exact⟨rfl,w2,HX.out,.inl ⟨he,rfl⟩⟩
theorem awd {r:Rl.Rs}{t cs:List Cm.Cv}(h:Cm.Good 1 (Cm.lastN 0 r.l) (t++cs))(hn:∀k,Cm.lastN (Cm.lastN 0 r.l) (t++cs.take k)=Cm.lastN 0 r.l+(t++cs.take k).length)(k:Nat)(hk:k<cs.length):Sto.apl ⟨r,t++cs.take k⟩ cs[k]=(0,⟨r,t++cs.take (k+1)⟩):=by
 rw[←List.take_append_drop k cs,←List.append_assoc]at h
 obtain⟨_,h2⟩:=(Cm.dG _ _ _ _).1 h
 rw[List.drop_eq_getElem_cons hk,hn k]at h2
 have hg:Cm.Good (Cm.lastE 1 (t++cs.take k)) (Sto.fin ⟨r,t++cs.take k⟩) [cs[k]]:=⟨h2.1,h2.2.1,h2.2.2.1,trivial⟩
 have hf:=(Cm.il [cs[k]] _ _ 0).2 hg
 unfold Sto.apl
 rw[if_neg (by simp only;rw[hf];simp)]
 rw[List.take_add_one,List.getElem?_eq_getElem hk]
 simp
def xK (ps pr q:Nat) (Fv:Nat→Prop) (w wr:World) (r:Rl.Rs) (t cs:List Cm.Cv) (k:Nat):Prop:=
 ∃Fk,SW ps pr q Fk wr ⟨r,t++cs.take k⟩∧Out Fv w wr∧∀g,Fk g→Fv g∨w.heap.size≤g
theorem xK.box {ps pr q:Nat}{Fv:Nat→Prop}{w wr V:World}{r:Rl.Rs}{t cs:List Cm.Cv}{k:Nat}(h:xK ps pr q Fv w wr r t cs k)(hb:Below wr.heap.size wr V):xK ps pr q Fv w V r t cs k:=by
 obtain⟨Fk,h1,h2,h3⟩:=h
 exact⟨Fk,h1.below hb,h2.trans (Out.of_below (F:=fun _=>False) hb) fun g hg=>hg.elim,h3⟩
theorem ajR (v:Value)(ps pr q:Nat)(Fv:Nat→Prop)(w V:World)(r:Rl.Rs)(t:List Cm.Cv)(rs:List Cw)(k:Nat)(hk:k<rs.length)(h:xK ps pr q Fv w V r t (aD rs) k)(hg:Cm.Good 1 (Cm.lastN 0 r.l) (t++aD rs))(hnn:∀k,Cm.lastN (Cm.lastN 0 r.l) (t++(aD rs).take k)=Cm.lastN 0 r.l+(t++(aD rs).take k).length)(ht:t.length≤2000)(hn:rs.length≤100)(hc:fJ V v rs)(hf:fF rs)(jB:∀c∈rs,0<c.l.length→∀b,c.v.ownBlock=some b→b<w.heap.size∧¬Fv b):
  Calls Tryz.prog 121 #[.pointer (some ⟨ps,0,none⟩),cZ (rs[k]).e (rs[k]).n (rs[k]).v] V fun E w'=>E=.returned (.int .i64 0)∧xK ps pr q Fv w w' r t (aD rs) (k+1):=by
 obtain⟨Fk,h1,h2,h3⟩:=h
 have hm:rs[k]∈rs:=List.getElem_mem hk
 have hkc:k<(aD rs).length:=by unfold aD;simpa using hk
 have hce:(aD rs)[k]=(rs[k]).c:=List.getElem_map _
 obtain⟨i1,i2⟩:=hc.2 _ hm
 have hlo:(rs[k]).l.length*40≤140737488351232:=by
  have:=(hf _ hm).2
  omega
 have hlt:(t++(aD rs).take k).length≤100000:=by
  rw[List.length_append,List.length_take]
  omega
 have AP:=alh ps pr q Fk V ⟨r,t++(aD rs).take k⟩ (rs[k]) h1 i1 (hf _ hm).1 i2 hlo (fun h0 b hb hF=>by
  obtain⟨q1,q2⟩:=jB _ hm h0 b hb
  rcases h3 b hF with e|e
  ·exact q2 e
  ·omega) hlt
 have ag:=awd hg hnn k hkc
 rw[hce]at ag
 rw[ag]at AP
 refine AP.mono ?_
 rintro E w' ⟨rfl,F',k1,k2,k3⟩
 have hs:=h2.size
 exact⟨rfl,F',k1,h2.trans k2 h3,fun g hg=>by
  rcases k3 g hg with e|e
  ·exact h3 g e
  ·exact .inr (by omega)⟩
theorem aqH (p q ps pr:Nat)(Fv:Nat→Prop)(w:World)(off:Bool)(x:Pm.Pg)(en:Int)(vw vr:Value)(r:Rl.Rs)(t:List Cm.Cv)(n1 k1:Nat)(bo:Option Addr)(rs:List Cw)(hb:w.heap[p]? =some (.cells (fw q off x vw en vr (.pointer (some ⟨ps,0,none⟩))) 60 (0,0)))(hw:SW ps pr q Fv w ⟨r,t⟩)(hpW:¬Fv p)
  (hg:Cm.Good 1 (Cm.lastN 0 r.l) (t++aD rs)) (hnn:∀k,Cm.lastN (Cm.lastN 0 r.l) (t++(aD rs).take k)=Cm.lastN 0 r.l+(t++(aD rs).take k).length) (ht:t.length≤2000) (hn:rs.length≤100) (hc:∀W,Out Fv w W→fJ W (.slice bo n1 k1) rs) (hf:fF rs) (jB:∀c∈rs,0<c.l.length→∀b,c.v.ownBlock=some b→b<w.heap.size∧¬Fv b):
  Calls Tryz.prog 62 #[.pointer (some ⟨p,11,none⟩),.slice bo n1 k1] w fun E w'=>E=.returned (.int .i64 0)∧xK ps pr q Fv w w' r t (aD rs) rs.length:=by
 have hpl:=aA hb
 have hn1:n1=rs.length:=by
  rcases(hc w (Out.refl _ _)).1 with⟨h,h'⟩|⟨a,k,h,_⟩
  ·cases h;rw[h'];rfl
  ·cases h;rfl
 subst hn1
 have l7:Hid (∀W,Out Fv w W→∀i c,rs[i]? =some c→∃b1 o1,bo=some ⟨b1,o1,none⟩∧W.cell? ⟨b1,o1+i*3,none⟩=some (.int .i64 c.e)∧W.cell? ⟨b1,o1+i*3+1,none⟩=some (.int .i64 c.n)∧W.cell? ⟨b1,o1+i*3+2,none⟩=some c.v):=hide fun W hW i c hi=>by
  obtain⟨b2,o2,k2,e,_,h⟩:=jG (hc W hW) (by have:=(List.getElem?_eq_some_iff.1 hi).1;omega)
  cases e
  exact⟨b2,o2,rfl,h i c hi⟩
 have HPB:Hid (∀W,Out Fv w W→W.heap[p]? =some (.cells (fw q off x vw en vr (.pointer (some ⟨ps,0,none⟩))) 60 (0,0))):=hide fun W hW=>(hW.block p hpl hpW).trans hb
 have I0:Hid (xK ps pr q Fv w w r t (aD rs) 0):=hide ⟨Fv,by rw[List.take_zero,List.append_nil];exact hw,Out.refl _ _,fun g hg=>.inl hg⟩
 have OI:Hid (∀W k,xK ps pr q Fv w W r t (aD rs) k→Out Fv w W):=hide (by rintro W k ⟨_,_,h,_⟩;exact h)
 have RD:Hid (∀k (hk:k<rs.length) V,xK ps pr q Fv w V r t (aD rs) k→Calls Tryz.prog 121 #[.pointer (some ⟨ps,0,none⟩),cZ (rs[k]).e (rs[k]).n (rs[k]).v] V fun E w'=>E=.returned (.int .i64 0)∧xK ps pr q Fv w w' r t (aD rs) (k+1)):=hide fun k hk V h=>ajR _ ps pr q Fv w V r t rs k hk h hg hnn ht hn (hc V (OI.out _ _ h)) hf jB
 have SH:Hid (∀c∈rs,∃a n k,c.v=.slice a n k):=hide fun c hm=>by
  rcases((hc w (Out.refl _ _)).2 c hm).1 with⟨h,_⟩|⟨a,k,h,_⟩
  ·exact⟨_,_,_,h⟩
  ·exact⟨_,_,_,h⟩
 clear hw hb hc hf jB hg hnn ht
 go_enter Tryz.func62,Tryz.ntmps62
 go_wp2_with fail
 go_loopw [10] (fun iv wr=>∃(k:Nat),iv=.int .i64 k∧k≤rs.length∧Hid (xK ps pr q Fv w wr r t (aD rs) k)) (fun iv _=>rs.length-(intOf iv).toNat)
 case atStart=>exact⟨0,rfl,Nat.zero_le _,I0⟩
 case round=>
  obtain⟨k,rfl,hk,IK⟩:=hrel
  by_cases hlt:k<rs.length
  ·obtain⟨c,hcc⟩:∃c,rs[k]=c:=⟨_,rfl⟩
   obtain⟨b1,o1,rfl,a0,a1,a2⟩:=l7.out wr (OI.out _ _ IK.out) k c (by rw[List.getElem?_eq_getElem hlt,hcc])
   obtain⟨va,vn,vk,hv⟩:=SH.out c (by rw[←hcc];exact List.getElem_mem hlt)
   rw[hv]at a2
   obtain⟨V,hV,hV',sV,bV,PV,v0,v1,v2⟩:=dO wr 32 (.int .i64 0) (.int .i64 0) (.slice none 0 0) (.int .i64 c.e) (.int .i64 c.n) (.slice va vn vk)
   have IV:=IK.out.box bV
   have AP:=RD.out k hlt V.drew (IV.box (Below.refl _ _).drew)
   rw[hcc,hv]at AP
   unfold cZ at AP
   have d8:V.cell? ⟨p,12,none⟩=some (.pointer (some ⟨ps,0,none⟩)):=ai (HPB.out V (OI.out _ _ IV)) 12 rfl
   have AP2:Hid (Calls Tryz.prog 121 #[.pointer (some ⟨ps,0,none⟩),.agg #[.int .i64 c.e,.int .i64 c.n,.slice va vn vk]] V.drew fun E w'=>E=.returned (.int .i64 0)∧w'.cell? ⟨p,12,none⟩=some (.pointer (some ⟨ps,0,none⟩))∧Hid (xK ps pr q Fv w w' r t (aD rs) (k+1))):=hide (by
    refine AP.mono ?_
    rintro E w' ⟨rfl,h⟩
    exact⟨rfl,ai (HPB.out w' (OI.out _ _ h)) 12 rfl,hide h⟩)
   have hlt':(k:Int)<rs.length:=by omega
   clear AP IV hcc hv PV bV sV IK
   go_wp2_with fail
   go_region_with (go_at_call 121;refine AP2.out.mono ?_;rintro E w' ⟨rfl,e8,H⟩)
   all_goals
    clear AP2
    go_wp2
    go_roundw
    case rel=>exact⟨k+1,by simp,by omega,H⟩
    case measure=>simp[intOf];omega
  ·obtain rfl:k=rs.length:=by omega
   have hlt':¬(rs.length:Int)<rs.length:=by omega
   clear RD l7 SH I0 hlt hk
   go_wp2
   go_ret
   exact⟨rfl,IK.out⟩
theorem axP {F:Nat→Prop}{w:World}{v:Value}{l:List Bm.Ov}(h:∀W,Out F w W→dm W v l)(hl:0<l.length):∀b,v.ownBlock=some b→b<w.heap.size∧¬F b:=by
 intro b hb
 obtain⟨b1,off,cap,rfl,_,_,hlt,hc⟩:=(h w (Out.refl _ _)).full hl
 obtain rfl:b1=b:=by simpa[Value.ownBlock]using hb
 refine⟨hlt,fun hF=>?_⟩
 have h0:=(hc 0 l[0] (by rw[List.getElem?_eq_getElem hl])).1
 have o:Out F w (w.setCell ⟨b1,off+0*3,none⟩ (.int .i64 0)):=Out.aT (aC w ⟨b1,off+0*3,none⟩ (.int .i64 0)) fun i hi=>by
  have:b1=i:=by simpa using hi
  rw[←this]
  exact hF
 obtain⟨b2,o2,c2,e,_,_,_,hc2⟩:=(h _ o).full hl
 cases e
 have h1:=(hc2 0 l[0] (by rw[List.getElem?_eq_getElem hl])).1
 unfold World.cell? at h0
 simp only at h0
 split at h0
 ·rename_i cs t fr hg
  have hs:=aL hg (off+0*3) (.int .i64 0)
  have hi:off+0*3<cs.size:=by
   rcases Nat.lt_or_ge (off+0*3) cs.size with k|k
   ·exact k
   ·rw[Array.getElem?_eq_none k]at h0;cases h0
  have hi':off<cs.size:=by omega
  have:=ai hs (off+0*3) (u:=.int .i64 0) (by simp[hi'])
  rw[this]at h1
  cases h1
 ·cases h0
theorem Tryz.aBA (a b:Int)(w:World):(Instr.field 98 (.agg #[.int .i64 a,.int .i64 b]) 0).run Tryz.prog w=.ok (.int .i64 a) w:=by kernel_rfl
theorem aqI (g2 g3 p q pw:Nat)(FW:Nat→Prop)(w:World)(off:Bool)(x:Pm.Pg)(en:Int)(vr vs:Value)(sw:Wl.Ws)(bo:Option Addr)(n1 k1:Nat)(rs:List Cw)(hg2:w.heap[g2]? =some (.cells #[.pointer (some ⟨p,0,none⟩)] 25 (0,0)))(hg3:w.heap[g3]? =some (.cells #[.slice bo n1 k1] 43 (0,0)))(hb:w.heap[p]? =some (.cells (fw q off x (.pointer (some ⟨pw,0,none⟩)) en vr vs) 60 (0,0)))(hw:WW pw q FW w sw)(hc:fJ w (.slice bo n1 k1) rs)(hf:fF rs)(hl:rs.length≤100):
  Calls Tryz.prog 52 #[.pointer (some ⟨g2,0,none⟩),.pointer (some ⟨g3,0,none⟩)] w fun E w'=>E=.returned (.int .i64 (Cm.fol (Cm.lastE 0 sw.l) en 0 (aD rs)).1)∧Below w.heap.size w w':=by
 have hfd:=Tryz.aBA
 obtain⟨ss,hss⟩:∃S:World→Prop,S=fun W=>W.cell? ⟨g2,0,none⟩=some (.pointer (some ⟨p,0,none⟩))∧W.cell? ⟨g3,0,none⟩=some (.slice bo n1 k1)∧W.cell? ⟨p,8,none⟩=some (.pointer (some ⟨pw,0,none⟩))∧W.cell? ⟨p,9,none⟩=some (.int .i64 en):=⟨_,rfl⟩
 have HS:Hid (∀W,Below w.heap.size w W→ss W):=hide fun W k=>by
  subst hss
  exact⟨ai ((k.block _ (aA hg2)).trans hg2) 0 rfl,ai ((k.block _ (aA hg3)).trans hg3) 0 rfl,ai ((k.block _ (aA hb)).trans hb) 8 rfl,ai ((k.block _ (aA hb)).trans hb) 9 rfl⟩
 have HE:Hid (∀W,Below w.heap.size w W→Calls Tryz.prog 54 #[.pointer (some ⟨pw,0,none⟩)] W fun E w'=>E=.returned (.int .i64 (Cm.lastE 0 sw.l))∧Below w.heap.size w w'∧ss w'):=hide fun W k=>by
  refine(abK pw q FW W sw (hw.below k)).mono ?_
  rintro E w' ⟨rfl,m,rfl⟩
  have k':=below_drewN k m
  exact⟨rfl,k',HS.out _ k'⟩
 generalize Cm.lastE 0 sw.l=ep at*
 have HF:Hid (∀W,Below w.heap.size w W→Calls Tryz.prog 53 #[.int .i64 ep,.int .i64 en,.slice bo n1 k1] W fun E w'=>E=.returned (flv (Cm.fol ep en 0 (aD rs)))∧Below w.heap.size w w'∧ss w'):=hide fun W k=>by
  refine(rR ep en _ rs W (hc.below k) hf (by omega)).mono ?_
  rintro E w' ⟨rfl,b⟩
  have k':=k.trans (b.mono k.size)
  exact⟨rfl,k',HS.out _ k'⟩
 obtain⟨f1,f2,hfo⟩:∃a b,Cm.fol ep en 0 (aD rs)=(a,b):=⟨_,_,rfl⟩
 rw[hfo]at HF⊢
 unfold flv at HF
 simp only at HF⊢
 have s0:=HS.out w (Below.refl _ _)
 subst hss
 obtain⟨a1,a2,a3,a4⟩:=s0
 clear hg2 hg3 hb hw hc hf hl hfo HS
 go_enter Tryz.func52,Tryz.ntmps52
 go_wp2_with fail
 go_region_held3 (fun W=>W.cell? ⟨g2,0,none⟩=some (.pointer (some ⟨p,0,none⟩))∧W.cell? ⟨g3,0,none⟩=some (.slice bo n1 k1)∧W.cell? ⟨p,8,none⟩=some (.pointer (some ⟨pw,0,none⟩))∧W.cell? ⟨p,9,none⟩=some (.int .i64 en)) (first|exact⟨a1,a2,a3,a4⟩|exact sF|exact sE|go_keep)
  (first
  |(go_at_call 54;refine(HE.out _ ((Below.refl _ _).drew)).mono ?_;rintro E w2 ⟨rfl,bE,sE⟩)
  |(go_at_call 53;refine(HF.out _ bE).mono ?_;rintro E w3 ⟨rfl,bF,sF⟩;have BF:=hide bF;clear bF))
 all_goals
  go_wp2
  go_ret
  exact⟨rfl,BF.out⟩
theorem aqR (g2 g3 p:Nat)(w:World)(r:Int)(h2:w.cell? ⟨g2,0,none⟩=some (.pointer (some ⟨p,0,none⟩)))(hs:Calls Tryz.prog 56 #[.pointer (some ⟨p,0,none⟩),.func (.func 57) #[] #[.pointer (some ⟨g3,0,none⟩)]] w fun E w'=>E=.returned (.int .i64 r)∧Below w.heap.size w w'):
  Calls Tryz.prog 55 #[.pointer (some ⟨g2,0,none⟩),.pointer (some ⟨g3,0,none⟩)] w fun E w'=>E=.returned (.int .i64 r)∧Below w.heap.size w w':=by
 have qf:∀(fn:Fn) (first cap:Array Value) (w:World),(Instr.makeFunc fn first cap).run Tryz.prog w=.ok (.func fn first cap) w:=fun _ _ _ _=>rfl
 have PC:=hide hs
 clear hs
 go_enter Tryz.func55,Tryz.ntmps55
 go_wp2_with fail
 refine PC.out.mono ?_
 rintro E w' ⟨rfl,b⟩
 have B:=hide b
 clear b PC
 go_wp2
 go_ret
 exact⟨rfl,B.out⟩
theorem ah5 (g2 g3 p:Nat)(w:World)(bo:Option Addr)(n1 k1:Nat)(r:Int)(X:World→Prop)(h2:w.cell? ⟨g2,0,none⟩=some (.pointer (some ⟨p,0,none⟩)))(h3:w.cell? ⟨g3,0,none⟩=some (.slice bo n1 k1))(hs:Calls Tryz.prog 60 #[.pointer (some ⟨p,8,none⟩),.slice bo n1 k1] w.drew fun E w'=>E=.returned (.int .i64 r)∧X w'):
  Calls Tryz.prog 59 #[.pointer (some ⟨g2,0,none⟩),.pointer (some ⟨g3,0,none⟩)] w fun E w'=>E=.returned (.int .i64 r)∧X w':=by
 have PC:=hide hs
 clear hs
 go_enter Tryz.func59,Tryz.ntmps59
 go_wp2_with fail
 go_region_with (go_at_call 60;refine PC.out.mono ?_;rintro E w' ⟨rfl,k⟩;have K:=hide k;clear k)
 all_goals
  clear PC
  go_wp2
  go_ret
  exact⟨rfl,K.out⟩
theorem agC (g2 g3 p:Nat)(w:World)(bo:Option Addr)(n1 k1:Nat)(r:Int)(X:World→Prop)(h2:w.cell? ⟨g2,0,none⟩=some (.pointer (some ⟨p,0,none⟩)))(h3:w.cell? ⟨g3,0,none⟩=some (.slice bo n1 k1))(hs:Calls Tryz.prog 62 #[.pointer (some ⟨p,11,none⟩),.slice bo n1 k1] w.drew fun E w'=>E=.returned (.int .i64 r)∧X w'):
  Calls Tryz.prog 61 #[.pointer (some ⟨g2,0,none⟩),.pointer (some ⟨g3,0,none⟩)] w fun E w'=>E=.returned (.int .i64 r)∧X w':=by
 have PC:=hide hs
 clear hs
 go_enter Tryz.func61,Tryz.ntmps61
 go_wp2_with fail
 go_region_with (go_at_call 62;refine PC.out.mono ?_;rintro E w' ⟨rfl,k⟩;have K:=hide k;clear k)
 all_goals
  clear PC
  go_wp2
  go_ret
  exact⟨rfl,K.out⟩
end Go.Proofs.YtpifdeoepppadaaGreatDoor
