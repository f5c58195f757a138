/- Texts. -/
import Derived.Test.YtlmkaljjocflmaaGreatDoorBH27
import Derived.Test.YtlmkaljjocflmaaGreatDoorBH16
import Derived.Test.YtlmkaljjocflmaaGreatDoorBH17
import Derived.Test.YtlmkaljjocflmaaGreatDoorBH23
import Derived.Test.YtlmkaljjocflmaaGreatDoorBH6
import Derived.Deep.CutRange
set_option maxRecDepth 100000
set_option maxHeartbeats 8000000
set_option linter.unusedVariables false
open Go.Proofs.Tryz
namespace Go.Proofs.YtlmkaljjocflmaaGreatDoor
open Go.RowKit
theorem aq7 {s:Rst.St}(so:Sto.Ok (Rst.aP s))(u:Int):s.l.drop (Cm.lastN 0 (Sto.aN (Rst.aP s) u).2.r.l).toNat=(Sto.aN (Rst.aP s) u).2.l:=by
 obtain⟨b1,b2,b3,b4⟩:=so.bound
 have hso:(Rst.aP s).r.l=s.r:=rfl
 unfold Sto.aN
 split
 ·rfl
 rename_i h1
 split
 ·rfl
 split
 ·rfl
 split
 ·rename_i h4
  show s.l.drop (Cm.lastN 0 (Rl.aN (Rst.aP s).r (Sto.dW (Rst.aP s) u)).2.l).toNat=(Rst.aP s).l
  rw[Sto.aeW h4]
  rfl
 ·rename_i h4
  show s.l.drop (Cm.lastN 0 (Rl.aN (Rst.aP s).r (Sto.dW (Rst.aP s) u)).2.l).toNat=(Rst.aP s).l.drop (u-Cm.lastN 0 (Rst.aP s).r.l).toNat
  rw[Sto.abP (by simpa using h4),Rl.dU]
  show s.l.drop u.toNat=(s.l.drop (Cm.lastN 0 s.r).toNat).drop (u-Cm.lastN 0 s.r).toNat
  rw[hso]at h1 b1
  rw[List.drop_drop]
  congr 1
  omega
theorem aia {t:Rl.Rs}{c:Cm.Cv}(h:t.bk=false)(h6:(Rl.aN t c).1≠6):(Rl.aN t c).2.bk=false:=by
 revert h6
 unfold Rl.aN
 split
 ·intro k;exact absurd rfl k
 split
 ·intro _;exact h
 split
 ·intro _;exact h
 split
 ·rename_i hx
  intro k
  exfalso
  revert k hx
  unfold Rl.ext
  split
  ·rename_i hw
   intro _ k
   rcases afp (st:=t.d) 2 (by omega) (Rl.fr c)with e|e
   ·exact hw e
   ·exact k e
  ·intro hx k
   rcases uj (Dm.write t.d 2 (Rl.fr c)).2 with e|e
   ·exact hx e
   ·exact k e
 ·intro _;rfl
theorem atu {t:Sto.Ss}{u:Int}(h:t.r.bk=false)(h6:(Sto.aN t u).1≠6):(Sto.aN t u).2.r.bk=false:=by
 revert h6
 unfold Sto.aN
 split
 ·intro _;exact h
 split
 ·intro _;exact h
 split
 ·intro _;exact h
 split
 ·intro k;exact aia h k
 ·rename_i hx
  intro _
  exact aia h (by simp at hx;rw[hx];decide)
theorem ag8 (p pr q:Nat)(F:Nat→Prop)(w:World)(sr:Rl.Rs)(u en:Int)(h11:w.cell? ⟨p,11,none⟩=some (.pointer (some ⟨pr,0,none⟩)))(h9:w.cell? ⟨p,9,none⟩=some (.int .i64 en))(h:RW pr q F w sr):
  Calls prog 221 #[.pointer (some ⟨p,0,none⟩),.int .i64 u] w fun E w'=>E=.returned (.int .i64 (if u<Cm.lastN 0 sr.l∨en<u then 2 else 0))∧w=w':=by
 have HE:=hide (jy pr q F w sr h)
 clear h
 generalize Cm.lastN 0 sr.l=n at*
 by_cases h1:u<n
 ·rw[if_pos (.inl h1)]
  go_enter func221,ntmps221
  go_wp2_with fail
  refine HE.out.mono ?_
  rintro E w1 ⟨rfl,rfl⟩
  go_wp2
  go_ret
  exact⟨rfl,rfl⟩
 ·by_cases h2:en<u
  ·rw[if_pos (.inr h2)]
   go_enter func221,ntmps221
   go_wp2_with fail
   refine HE.out.mono ?_
   rintro E w1 ⟨rfl,rfl⟩
   go_wp2
   go_ret
   exact⟨rfl,rfl⟩
  ·rw[if_neg (by omega)]
   go_enter func221,ntmps221
   go_wp2_with fail
   refine HE.out.mono ?_
   rintro E w1 ⟨rfl,rfl⟩
   go_wp2
   go_ret
   exact⟨rfl,rfl⟩
theorem akk (g2 g3 p:Nat)(w:World)(u r:Int)(h2:w.cell? ⟨g2,0,none⟩=some (.pointer (some ⟨p,0,none⟩)))(h3:w.cell? ⟨g3,0,none⟩=some (.int .i64 u))(hs:Calls prog 221 #[.pointer (some ⟨p,0,none⟩),.int .i64 u] w fun E w'=>E=.returned (.int .i64 r)∧w=w'):
  Calls prog 220 #[.pointer (some ⟨g2,0,none⟩),.pointer (some ⟨g3,0,none⟩)] w fun E w'=>E=.returned (.int .i64 r)∧w=w':=by
 have PC:=hide hs
 clear hs
 go_enter func220,ntmps220
 go_wp2_with fail
 refine PC.out.mono ?_
 rintro E w' ⟨rfl,rfl⟩
 go_wp2
 go_ret
 exact⟨rfl,rfl⟩
theorem akw (g2 g3 p:Nat)(w:World)(r:Int)(h2:w.cell? ⟨g2,0,none⟩=some (.pointer (some ⟨p,0,none⟩)))(hs:Calls prog 114 #[.pointer (some ⟨p,0,none⟩),.func (.func 223) #[] #[.pointer (some ⟨g3,0,none⟩)]] w fun E w'=>E=.returned (.int .i64 r)∧Below w.heap.size w w'):
  Calls prog 222 #[.pointer (some ⟨g2,0,none⟩),.pointer (some ⟨g3,0,none⟩)] w fun E w'=>E=.returned (.int .i64 r)∧Below w.heap.size w w':=by
 have kQ:∀(fn:Fn) (first cap:Array Value) (w:World),(Instr.makeFunc fn first cap).run prog w=.ok (.func fn first cap) w:=fun _ _ _ _=>rfl
 have PC:=hide hs
 clear hs
 go_enter func222,ntmps222
 go_wp2_with fail
 refine PC.out.mono ?_
 rintro E w' ⟨rfl,b⟩
 have B:=hide b
 clear b PC
 go_wp2
 go_ret
 exact⟨rfl,B.out⟩
theorem ajo (g2 g3 p ps:Nat)(w:World)(u r:Int)(X:World→Prop)(h2:w.cell? ⟨g2,0,none⟩=some (.pointer (some ⟨p,0,none⟩)))(h3:w.cell? ⟨g3,0,none⟩=some (.int .i64 u))(h12:w.cell? ⟨p,12,none⟩=some (.pointer (some ⟨ps,0,none⟩)))(hs:Calls prog 225 #[.pointer (some ⟨ps,0,none⟩),.int .i64 u] w.drew fun E w'=>E=.returned (.int .i64 r)∧X w')(hX:∀w',X w'→w'.cell? ⟨g2,0,none⟩=some (.pointer (some ⟨p,0,none⟩))∧w'.cell? ⟨g3,0,none⟩=some (.int .i64 u)∧w'.cell? ⟨p,12,none⟩=some (.pointer (some ⟨ps,0,none⟩))):
  Calls prog 224 #[.pointer (some ⟨g2,0,none⟩),.pointer (some ⟨g3,0,none⟩)] w fun E w'=>E=.returned (.int .i64 r)∧X w':=by
 have PC:=hide hs
 have HX:=hide hX
 clear hs hX
 go_enter func224,ntmps224
 go_wp2_with fail
 go_region_held3 (fun w'=>w'.cell? ⟨g2,0,none⟩=some (.pointer (some ⟨p,0,none⟩))∧w'.cell? ⟨g3,0,none⟩=some (.int .i64 u)∧w'.cell? ⟨p,12,none⟩=some (.pointer (some ⟨ps,0,none⟩))) (first|exact⟨h2,h3,h12⟩|exact hK|go_keep)
  (first
  |(go_at_call 225;refine PC.out.mono ?_;rintro E w' ⟨rfl,k⟩;have hK:=HX.out _ k;have K:=hide k;clear k))
 go_wp2
 go_ret
 exact⟨rfl,K.out⟩
theorem ajM (p q:Nat)(F:Nat→Prop)(w:World)(s:Rst.St)(h:PS p q F w s)(hR:iY s)(h3:T3 s.d∧¬F 0)(u:Int)(hu:In64 u):Calls prog 166 #[.pointer (some ⟨p,0,none⟩),.int .i64 u] w fun E w'=>E=.returned (.int .i64 (Rst.aN s u).1)∧iO p q F w w' (Rst.aN s u).2:=by
 have kQ:∀(fn:Fn) (first cap:Array Value) (w:World),(Instr.makeFunc fn first cap).run prog w=.ok (.func fn first cap) w:=fun _ _ _ _=>rfl
 obtain⟨w1,hw1,s1,b1,P1⟩:=au w #[.pointer (some ⟨p,0,none⟩)] 41
 obtain⟨w2,hw2,s2,b2,P2⟩:=au w1 #[.int .i64 u] 3
 obtain⟨w3,hw3,s3,b3,P3⟩:=au w2 #[.func (.func 110) #[.pointer (some ⟨p,0,none⟩)] #[],.func (.func 220) #[] #[.pointer (some ⟨w.heap.size,0,none⟩),.pointer (some ⟨w.heap.size+1,0,none⟩)],.func (.func 222) #[] #[.pointer (some ⟨w.heap.size,0,none⟩),.pointer (some ⟨w.heap.size+1,0,none⟩)],.func (.func 224) #[] #[.pointer (some ⟨w.heap.size,0,none⟩),.pointer (some ⟨w.heap.size+1,0,none⟩)]] 228
 have z2:w2.heap.size=w.heap.size+2:=by omega
 have z3:w3.heap.size=w.heap.size+3:=by omega
 rw[s1]at P2
 rw[z2]at P3
 have fC:Below w.heap.size w w3:=(b1.trans (b2.mono (by omega))).trans (b3.mono (by omega))
 have c2:w2.cell? ⟨w.heap.size,0,none⟩=some (.pointer (some ⟨p,0,none⟩)):=ai ((b2.block _ (by omega)).trans P1) 0 rfl
 have t3:=(b3.block _ (by omega)).trans ((b2.block _ (by omega)).trans P1)
 have u3:=(b3.block _ (by omega)).trans P2
 have xh:=h.below fC
 have RUN:Run (w.heap.size+2) (QS p q F w (Rst.aN s u)) [.func (.func 110) #[.pointer (some ⟨p,0,none⟩)] #[],.func (.func 220) #[] #[.pointer (some ⟨w.heap.size,0,none⟩),.pointer (some ⟨w.heap.size+1,0,none⟩)],.func (.func 222) #[] #[.pointer (some ⟨w.heap.size,0,none⟩),.pointer (some ⟨w.heap.size+1,0,none⟩)],.func (.func 224) #[] #[.pointer (some ⟨w.heap.size,0,none⟩),.pointer (some ⟨w.heap.size+1,0,none⟩)]] w3:=by
  refine aay xh (iO.same h fC) (fun k=>by unfold Rst.aN;rw[if_pos k]) fun iC=>?_
  have hon:s.d.on=true:=by
   unfold Rst.asked at iC
   revert iC
   cases s.d.on<;>simp
  have hoff:s.off=false:=by
   unfold Rst.asked at iC
   revert iC
   cases s.off<;>simp
  obtain⟨F1,G,h1,⟨pw,pr,ps,Gw,Gr,Gs,lw,bw,br,V,rfl⟩,hd,hm,rfl⟩:=xh
  obtain⟨rfl,rfl,rfl⟩:=V.live hoff
  refine Run.cons (enters_of func220 (by kernel_rfl) rfl) (by simp) ((akk _ _ p w3 u _ (ai t3 0 rfl) (ai u3 0 rfl) (ag8 p pr q _ w3 _ u _ (ai V.blk 11 rfl) (ai V.blk 9 rfl) (V.rw h1))).mono ?_)
  rintro E w4 ⟨rfl,rfl⟩
  refine⟨_,rfl,rfl,?_⟩
  simp only
  by_cases hx:u<Cm.lastN 0 s.r∨(s.l.length:Int)<u
  ·rw[if_pos hx]
   exact .inl ⟨by decide,QS.no (s1:=s) (by unfold Rst.aN;rw[if_neg (by simp[iC]),if_pos hx]) (by decide) (iO.same h fC)⟩
  rw[if_neg hx]
  refine .inr ⟨rfl,?_⟩
  have hb:=V.blk
  have SC:=xN p q pw pr _ _ w3 _ _ _ _ _ _ hb (V.ww h1) (V.rw h1) 223 #[.pointer (some ⟨w.heap.size+1,0,none⟩)] (enters_of func223 (by kernel_rfl) rfl) s.p _ _ _ (Rst.hf 3 s.d).length (amZ w3 p (w.heap.size+1) s.p _ _ _ u u3) (fun _=>akq p q F1 w3 s.d h1 hR.1 (ai hb 0 rfl) (ay hb) hon h3.1)
  simp only at SC
  rw[yZ V.ok]at SC
  refine Run.cons (enters_of func222 (by kernel_rfl) rfl) (by simp) ((akw _ _ p w3 _ (ai t3 0 rfl) SC).mono ?_)
  rintro E w5 ⟨rfl,b5⟩
  have nX:=fC.trans (b5.mono (by omega))
  have z5:=b5.size
  refine⟨_,rfl,b5.block _ (by omega),?_⟩
  have hfi:Rst.fine s s.p s.l u=Rst.snd s.p s.l u (Rst.hf 3 s.d).length:=rfl
  cases hsn:Rst.snd s.p s.l u (Rst.hf 3 s.d).length with
  |false=>
   rw[if_neg (by simp)]
   exact .inl ⟨by decide,QS.no (s1:=s) (by unfold Rst.aN;rw[if_neg (by simp[iC]),if_neg hx,if_pos (hfi.trans hsn)]) (by decide) (iO.same h nX)⟩
  |true=>
   rw[if_pos rfl]
   refine .inr ⟨rfl,?_⟩
   have hr:Rst.aN s u=((Sto.aN (Rst.aP s) u).1,⟨(Sto.aN (Rst.aP s) u).2.r.d,s.p,s.l,(Sto.aN (Rst.aP s) u).2.r.l,s.off||decide ((Sto.aN (Rst.aP s) u).1=6)⟩):=by
    unfold Rst.aN
    rw[if_neg (by simp[iC]),if_neg hx,if_neg (by rw[hfi,hsn];simp)]
   have V5:=V.below b5
   have h15:=h1.below b5
   have hm5:=hm.below b5
   have hse:(⟨⟨s.d,s.r,false⟩,s.l.drop (Cm.lastN 0 s.r).toNat⟩:Sto.Ss)=Rst.aP s:=by unfold Rst.aP;rw[hoff]
   have so:Sto.Ok (Rst.aP s):=by rw[←hse];exact⟨V.good,V.rest⟩
   have hd5:Below w5.heap.size w5 w5.drew:=(Below.refl _ _).drew
   have hS:=(V5.below hd5).sw (h15.below hd5) hd
   rw[hse]at hS
   have hlr:(Rst.aP s).l.length≤100000:=by
    have:=hR.2
    show(s.l.drop _).length≤_
    rw[List.length_drop]
    omega
   have iZ:=ai8 ps pr q _ w5.drew (Rst.aP s) u hS (hR.1.mono (by decide) (by decide)) hu hlr
   have e1:=aq7 so u
   obtain⟨e2,_,e3⟩:=Sto.ag0 so u
   have e4:(Sto.aN (Rst.aP s) u).1≠6→(Sto.aN (Rst.aP s) u).2.r.bk=false:=atu (by rw[←hse])
   have e5:Sto.fin (Rst.aP s)=s.l.length:=by
    have:=V.le
    obtain⟨b1,_⟩:=so.bound
    show Cm.lastN 0 s.r+((s.l.drop (Cm.lastN 0 s.r).toNat).length:Int)=_
    rw[List.length_drop]
    have:0≤Cm.lastN 0 s.r:=b1
    omega
   rw[e5]at e3
   generalize Sto.aN (Rst.aP s) u=t at*
   obtain⟨ee,t⟩:=t
   simp only at*
   have lt5:∀g,F1 g∨PB p Gw Gr Gs g→g<w5.heap.size:=fun g hg=>by
    rcases hg with e|e
    ·exact h15.lt g e
    ·exact V5.lt g e
   have nS:∀g,g=p∨Gw g→¬((F1 g∨Gr g)∨Gs g):=by
    rintro g (rfl|e) ((k|k)|k)
    ·exact hd _ (.inl rfl) k
    ·exact V.np.2.1 k
    ·exact V.np.2.2 k
    ·exact hd _ (.inr (.inl e)) k
    ·exact V.wr g e k
    ·exact V.ws g e k
   have xD:∀g,F1 g∨PB p Gw Gr Gs g→g<w.heap.size:=fun g hg=>h.lt g hg
   have hX:∀w',kg ps pr q (fun g=>(F1 g∨Gr g)∨Gs g) w5.drew w' t→w'.heap[p]? =w5.heap[p]?∧∀g,w.heap.size≤g→g<w5.heap.size→w'.heap[g]? =w5.heap[g]? :=by
    rintro w' ⟨_,_,k,_⟩
    refine⟨k.block p (lt5 p (.inr (.inl rfl))) (nS p (.inl rfl)),fun g h1 h2=>k.block g h2 ?_⟩
    rintro((e|e)|e)
    ·have:=xD g (.inl e);omega
    ·have:=xD g (.inr (.inr (.inr (.inl e))));omega
    ·have:=xD g (.inr (.inr (.inr (.inr e))));omega
   have t5:=(b5.block _ (by omega)).trans t3
   have u5:=(b5.block _ (by omega)).trans u3
   refine Run.cons (enters_of func224 (by kernel_rfl) rfl) (by simp) ((ajo _ _ p ps w5 u _ _ (ai t5 0 rfl) (ai u5 0 rfl) (ai V5.blk 12 rfl) iZ (fun w' k=>⟨ai (((hX w' k).2 _ (by omega) (by omega)).trans t5) 0 rfl,ai (((hX w' k).2 _ (by omega) (by omega)).trans u5) 0 rfl,ai ((hX w' k).1.trans V5.blk) 12 rfl⟩)).mono ?_)
   rintro E w6 ⟨rfl,k⟩
   refine⟨_,rfl,(hX w6 k).2 _ (by omega) (by omega),?_⟩
   have acG:=(hX w6 k).1.trans V5.blk
   obtain⟨FSx',⟨FR',qQ,⟨jZ,qy,k1,k2,rfl⟩,k3,k4,k5,rfl⟩,o,n⟩:=k
   have o:Out (fun g=>(F1 g∨Gr g)∨Gs g) w5 w6:=(Out.of_below hd5).trans o fun g hg=>.inl hg
   have n:∀g,(jZ g∨qy g)∨qQ g→((F1 g∨Gr g)∨Gs g)∨w5.heap.size≤g:=n
   have agb:Wk pw q Gw w6 s.l false:=V5.wal.out o fun g hg=>nS g (.inr hg)
   have far:∀g,g=p∨Gw g→¬((jZ g∨qy g)∨qQ g):=fun g hg e=>by
    rcases n g e with e|e
    ·exact nS g hg e
    ·have:=lt5 g (.inr (hg.elim .inl fun e=>.inr (.inl e)));omega
   have m6:fU w6:=gz hm5 o (by
    rintro((e|e)|e)
    ·exact h3.2 (.inl e)
    ·exact h3.2 (.inr (.inr (.inr (.inl e))))
    ·exact h3.2 (.inr (.inr (.inr (.inr e)))))
   have dis:∀g,PB p Gw qy qQ g→¬jZ g:=by
    rintro g (rfl|e|e|e) k
    ·exact far g (.inl rfl) (.inl (.inl k))
    ·exact far g (.inr e) (.inl (.inl k))
    ·exact vD k2 k1 g e k
    ·exact k4 g e (.inl k)
   have ar7:Cm.Good 1 (Cm.lastN 0 t.r.l) (s.l.drop (Cm.lastN 0 t.r.l).toNat):=by rw[e1];exact e2.rest
   have le6:Cm.lastN 0 t.r.l≤s.l.length:=by
    have:Cm.lastN 0 t.r.l+(t.l.length:Int)=s.l.length:=e3
    omega
   have oF:Out (fun g=>F1 g∨PB p Gw Gr Gs g) w w6:=(Out.of_below nX).trans o fun g hg=>by
    rcases hg with(e|e)|e
    ·exact .inl (.inl e)
    ·exact .inl (.inr (.inr (.inr (.inl e))))
    ·exact .inl (.inr (.inr (.inr (.inr e))))
   have nF:∀g,jZ g∨PB p Gw qy qQ g→(F1 g∨PB p Gw Gr Gs g)∨w.heap.size≤g:=by
    have n':∀g,(jZ g∨qy g)∨qQ g→(F1 g∨PB p Gw Gr Gs g)∨w.heap.size≤g:=fun g e=>by
     rcases n g e with((e|e)|e)|e
     ·exact .inl (.inl e)
     ·exact .inl (.inr (.inr (.inr (.inl e))))
     ·exact .inl (.inr (.inr (.inr (.inr e))))
     ·exact .inr (by omega)
    rintro g (e|e|e|e|e)
    ·exact n' g (.inl (.inl e))
    ·exact .inl (.inr (.inl e))
    ·exact .inl (.inr (.inr (.inl e)))
    ·exact n' g (.inl (.inr e))
    ·exact n' g (.inr e)
   rw[←e1]at k3
   by_cases h6:ee=6
   ·subst h6
    refine .inl ⟨by decide,by rw[hr],fun k=>absurd rfl k,fun _=>⟨?_,_,_,acG,rfl⟩⟩
    have oZ:Out (fun g=>g=p) w6 (w6.setCell ⟨p,1,none⟩ (.bool true)):=Out.aM (ax w6 ⟨p,1,none⟩ (.bool true)) fun i hi=>by simpa using hi.symm
    have pz:(w6.setCell ⟨p,1,none⟩ (.bool true)).heap[p]? =some (.cells (fo q true s.p (.pointer (some ⟨pw,0,none⟩)) s.l.length (.pointer (some ⟨pr,0,none⟩)) (.pointer (some ⟨ps,0,none⟩))) 137 (0,0)):=aF acG 1 (.bool true)
    generalize w6.setCell ⟨p,1,none⟩ (.bool true)=Z at*
    rw[hr]
    have fp:=far p (.inl rfl)
    have hp0:p≠0:=abe hm5 V5.blk rfl
    have h1z:Pk q jZ Z t.r.d:=k1.agree fun g hg=>oZ.block g (k1.lt g hg) fun e=>fp (.inl (.inl (e▸hg)))
    exact⟨_,⟨jZ,PB p Gw qy qQ,h1z,⟨pw,pr,ps,Gw,qy,qQ,s.l,false,t.r.bk,⟨by rw[hoff];exact pz,agb.out oZ fun g hg e=>V.np.1 (e▸hg),k2.out oZ fun g hg e=>fp (.inl (.inr (e▸hg))),k3.out oZ fun g hg e=>fp (.inr (e▸hg)),by simp,fun e=>absurd e (by simp),V.ok,V.fit,ar7,le6,⟨V.np.1,fun e=>fp (.inl (.inr e)),fun e=>fp (.inr e)⟩,fun g hg e=>far g (.inr hg) (.inl (.inr e)),fun g hg e=>far g (.inr hg) (.inr e),fun g hg e=>k4 g e (.inr hg)⟩,rfl⟩,dis,gz m6 oZ fun e=>hp0 e.symm,rfl⟩,oF.trans oZ fun g hg=>by rw[hg];exact .inl (.inr (.inl rfl)),nF⟩
   ·have PSN:iO p q (fun g=>F1 g∨PB p Gw Gr Gs g) w w6 ⟨t.r.d,s.p,s.l,t.r.l,s.off⟩:=
     ⟨_,⟨jZ,PB p Gw qy qQ,k1,⟨pw,pr,ps,Gw,qy,qQ,s.l,false,t.r.bk,⟨acG,agb,k2,k3,by simp,fun _=>⟨rfl,rfl,e4 h6⟩,V.ok,V.fit,ar7,le6,⟨V.np.1,fun e=>far p (.inl rfl) (.inl (.inr e)),fun e=>far p (.inl rfl) (.inr e)⟩,fun g hg e=>far g (.inr hg) (.inl (.inr e)),fun g hg e=>far g (.inr hg) (.inr e),fun g hg e=>k4 g e (.inr hg)⟩,rfl⟩,dis,m6,rfl⟩,oF,nF⟩
    have hr':Rst.aN s u=(ee,⟨t.r.d,s.p,s.l,t.r.l,s.off⟩):=by rw[hr];simp[h6]
    by_cases h0:ee=0
    ·subst h0
     exact .inr ⟨rfl,QS.no hr' (by decide) PSN⟩
    ·exact .inl ⟨h0,QS.no hr' h6 PSN⟩
 have HC:=hide (acE (n:=4) rfl (by omega) P3 RUN)
 generalize Rst.aN s u=r at*
 clear RUN h hR h3 hu b1 b2 b3 P1 P2 P3 s2 s3 z3 fC t3 u3 xh
 go_enter func166,ntmps166
 go_wp2_with fail
 refine HC.out.mono ?_
 rintro E w' ⟨rfl,X⟩
 have X:=hide X
 clear HC
 go_wp2
 go_ret
 exact⟨rfl,X.out⟩
theorem ajN {l:List Cm.Cv}{k:Nat}{c:Cm.Cv}(h:l[k]? =some c):Cm.lastN 0 (l.take (k+1))=c.n:=by
 rw[List.take_add_one,h]
 exact(Cm.dU _ _ 0 0).2
theorem anH (n p q:Nat)(F:Nat→Prop)(w:World)(x:Ns)(h:Nd n p q F w x)(hR:iY x.s):
  Calls prog 167 #[.pointer (some ⟨n,0,none⟩)] w fun E w'=>E=.returned (.int .i64 (Cm.lastN 0 x.s.r))∧Below w.heap.size w w':=by
 have c3:=h.cs.c3
 have RN:=hide (alU p q F w x.s h.st hR)
 clear h hR
 go_enter func167,ntmps167
 go_wp2_with fail
 refine RN.out.mono ?_
 rintro E w1 ⟨v,rs,rfl,Q,_,b1⟩
 have HQ:=hide Q.row.row
 have HC:=hide Q.iH
 have HI:=hide Q.is
 have B1:=hide b1
 obtain⟨va,vk,hv,hc1,hc2⟩:=Q.row.row.shape
 rw[hv]at HQ
 subst hv
 have hlm:rs.length≤9223372036854775807:=by have:=hc2;simp only[maxLen]at this;omega
 clear RN Q b1 c3 hc1 hc2
 go_wp2
 go_loopw [3,13] (fun ev iv wr=>∃k:Nat,k≤rs.length∧iv=.int .i64 k∧ev=.int .i64 (Cm.lastN 0 ((aD rs).take k))∧Hid (Below w1.heap.size w1 wr)) (fun _ iv _=>rs.length-(intOf iv).toNat)
 case atStart=>exact⟨0,by omega,rfl,rfl,hide (Below.refl _ _)⟩
 case round=>
  obtain⟨k,hk,rfl,rfl,BR⟩:=hrel
  by_cases hlt:k<rs.length
  ·obtain⟨b,off,cp,dI,_,_,hb,hcell⟩:=HQ.out.full (by omega)
   simp only[Value.slice.injEq,true_and]at dI
   obtain⟨hva,hcp⟩:=dI
   obtain⟨c,hc⟩:∃c,rs[k]? =some c:=⟨rs[k],List.getElem?_eq_getElem hlt⟩
   have LN:=hide (ajN (l:=aD rs) (k:=k) (c:=c.c) (by unfold aD;rw[List.getElem?_map,hc];rfl))
   obtain⟨k0,k1,k2⟩:=hcell k c hc
   obtain⟨ca,ck,hcv,_,_⟩:=(HC.out c (List.mem_of_getElem? hc)).is.shape
   rw[hcv]at k2
   have d0:=(BR.out.cell (p:=⟨b,off+k*3,none⟩) hb).trans k0
   have d1:=(BR.out.cell (p:=⟨b,off+k*3+1,none⟩) hb).trans k1
   have d2:=(BR.out.cell (p:=⟨b,off+k*3+2,none⟩) hb).trans k2
   have hlt':(k:Int)<rs.length:=by omega
   have hk0:(0:Int)≤(k:Int):=by omega
   have hwr:IntKind.i64.wrap ((k:Int)+1)=(k:Int)+1:=aQ _ (by omega) (by omega)
   obtain⟨V,hV,hV',sV,bV,PV,e0,e1,e2⟩:=eY wr 273 (.int .i64 0) (.int .i64 0) (.slice none 0 0) (.int .i64 c.e) (.int .i64 c.n) (.slice ca c.l.length ck)
   have BV:=hide (BR.out.trans (bV.mono BR.out.size))
   subst hva
   clear hcell k0 k1 k2 hc hcp hcv sV bV PV
   go_wp2
   go_roundw
   case rel=>exact⟨k+1,by omega,by simp,by rw[LN.out];rfl,BV⟩
   case measure=>simp[intOf];omega
  ·obtain rfl:k=rs.length:=by omega
   have hlt':¬(rs.length:Int)<rs.length:=by omega
   have RR:Hid (Cm.lastN 0 ((aD rs).take rs.length)=Cm.lastN 0 x.s.r):=hide (by rw[List.take_of_length_le (by unfold aD;rw[List.length_map];exact Nat.le_refl _),HI.out])
   rw[RR.out]
   have BB:=hide (B1.out.trans (BR.out.mono B1.out.size))
   clear RR BR B1 HI HQ
   go_wp2
   go_ret
   exact⟨rfl,BB.out⟩
def Ns.fl (x:Ns):Ns:=⟨x.u,x.t,x.a,x.k,x.m,if Rol.jF x.s.p x.a=true then(Rst.dB (Rst.aN x.s x.a).2 (Rol.ak x.s.p x.a)).2 else(Rst.aN x.s x.a).2⟩
theorem aj3 (n p q:Nat)(F:Nat→Prop)(w:World)(x:Ns)(h:Nd n p q F w x)(hR:iY x.s)(h3:T3 x.s.d)(h0:¬F 0)(hr:x.s.p.r=1)(ha:In64 x.a)(hra:Cm.lastN 0 x.s.r≤x.a)(hfl:(Rst.aN x.s x.a).1=0)(hR2:iY (Rst.aN x.s x.a).2)(h32:T3 (Rst.aN x.s x.a).2.d)(hfz:ig (Rol.ak x.s.p x.a))(hst:Rol.jF x.s.p x.a=true→(Rst.dB (Rst.aN x.s x.a).2 (Rol.ak x.s.p x.a)).1=0):
  Calls prog 90 #[.pointer (some ⟨n,0,none⟩)] w fun E w'=>E=.returned (.int .i64 0)∧dF n p q F w w' x.fl:=by
 have c3:=h.cs.c3
 obtain⟨y,hy⟩:∃y,x.s.p=y:=⟨_,rfl⟩
 obtain⟨xa,hxa⟩:∃z,x.a=z:=⟨_,rfl⟩
 have xL:ig y:=by rw[←hy];exact h.st.fit
 rw[hxa]at ha hra hfl hR2 h32
 rw[hy]at hr
 rw[hxa,hy]at hfz hst
 have HV:vp y=.agg #[.int .i64 y.e,.int .u8 1,.int .i64 y.a,.int .u8 y.p,.int .i64 y.f,.int .i64 y.b]:=by rw[←hr];rfl
 have PG:=jA p q F w x.s h.st hR
 rw[hy,HV]at PG
 have PG:=hide PG
 have EN:Hid (∀W,Below w.heap.size w W→Calls prog 24 #[.pointer (some ⟨p,0,none⟩)] W fun E w'=>E=.returned (.int .i64 x.s.l.length)∧Below W.heap.size W w'):=hide fun W hW=>vR p q F W x.s (h.below hW).st hR
 have CE:Hid (∀W,Below w.heap.size w W→W.cell? ⟨n,3,none⟩=some (.pointer (some ⟨p,0,none⟩))∧W.cell? ⟨n,4,none⟩=some (.int .i64 xa)):=hide fun W hW=>⟨(h.below hW).cs.c3,hxa▸(h.below hW).cs.c4⟩
 obtain⟨rn,hrn⟩:∃z,Cm.lastN 0 x.s.r=z:=⟨_,rfl⟩
 have RN:Hid (∀W,Below w.heap.size w W→Calls prog 167 #[.pointer (some ⟨n,0,none⟩)] W fun E w'=>E=.returned (.int .i64 rn)∧Below W.heap.size W w'):=hide fun W hW=>by
  rw[←hrn]
  exact anH n p q F W x (h.below hW) hR
 have FL:Hid (∀W,Below w.heap.size w W→Calls prog 166 #[.pointer (some ⟨p,0,none⟩),.int .i64 xa] W fun E w'=>E=.returned (.int .i64 0)∧dF n p q F w w' ⟨x.u,x.t,x.a,x.k,x.m,(Rst.aN x.s xa).2⟩∧∀g,w.heap.size≤g→g<W.heap.size→w'.heap[g]? =W.heap[g]?):=hide fun W hW=>by
  have N1:=h.below hW
  refine(ajM p q F W x.s N1.st hR ⟨h3,h0⟩ xa ha).mono ?_
  rintro E w' ⟨rfl,k⟩
  rw[hfl]
  have k':=k
  obtain⟨F',k1,k2,k3⟩:=k'
  exact⟨rfl,(N1.step k).ahead hW,fun g g1 g2=>k2.block g g2 fun e=>by have:=h.st.lt g e;omega⟩
 obtain⟨s1,hs1⟩:∃s1,(Rst.aN x.s xa).2=s1:=⟨_,rfl⟩
 rw[hs1]at hR2 h32 hst FL
 obtain⟨z,hz⟩:∃z,Rol.ak y xa=z:=⟨_,rfl⟩
 rw[hz]at hfz hst
 have AK0:Hid (∀W,fU W→Calls prog 168 #[.agg #[.int .i64 y.e,.int .u8 1,.int .i64 y.a,.int .u8 y.p,.int .i64 y.f,.int .i64 y.b],.int .i64 xa] W fun E w'=>E=.returned (.tuple #[.agg #[.int .i64 z.e,.int .u8 z.r,.int .i64 z.a,.int .u8 z.p,.int .i64 z.f,.int .i64 z.b],.bool (Rol.jF y xa),.int .i64 (Rol.mK y xa)])∧Below W.heap.size W w'):=hide fun W hm=>by
  have:=akv y xa W xL hm ⟨ha.1,by have:=ha.2;omega⟩
  rw[HV,hz]at this
  exact this
 have ST:Hid (∀W F',Nd n p q F' W ⟨x.u,x.t,x.a,x.k,x.m,s1⟩→¬F' 0→Rol.jF y xa=true→Calls prog 57 #[.pointer (some ⟨p,0,none⟩),.agg #[.int .i64 z.e,.int .u8 z.r,.int .i64 z.a,.int .u8 z.p,.int .i64 z.f,.int .i64 z.b]] W fun E w'=>E=.returned (.int .i64 0)∧Hid (dF n p q F' W w' ⟨x.u,x.t,x.a,x.k,x.m,(Rst.dB s1 z).2⟩)∧(∀g,g<W.heap.size→¬F' g→w'.heap[g]? =W.heap[g]?)):=hide fun W F' hN hF hk=>by
  refine(aoq p q F' W s1 hN.st hR2 ⟨h32,hF⟩ z hfz).mono ?_
  rintro E w' ⟨rfl,k⟩
  rw[hst hk]
  have k':=k
  obtain⟨F2,k1,k2,k3⟩:=k'
  exact⟨rfl,hide (hN.step k),fun g g1 g2=>k2.block g g1 g2⟩
 have HX:Hid (x.fl=⟨x.u,x.t,x.a,x.k,x.m,if Rol.jF y xa=true then(Rst.dB s1 z).2 else s1⟩):=hide (by unfold Ns.fl;rw[hy,hxa,hz,hs1])
 have HF0:=hide (And.intro h0 (And.intro h.st.gQ.pos h.lt))
 have HMX:Hid (max xa rn=xa):=hide (by omega)
 have HA:=hide hxa
 generalize x.fl=fx at*
 generalize Rol.jF y xa=kb at*
 generalize Rol.mK y xa=ke at*
 generalize (x.s.l.length:Int)=en at*
 clear h hR h3 h0 hr ha hfl hR2 h32 hfz hst hy hxa xL HV hs1 hz hrn hra
 go_enter func90,ntmps90
 go_wp2_with fail
 refine PG.out.mono ?_
 rintro E w1 ⟨rfl,b1⟩
 obtain⟨w2,hw2,uR,s2,b2,P2,⟨g0,g1,g2,g3,g4,g5⟩⟩:=ng w1 46 (.int .i64 0) (.int .u8 0) (.int .i64 0) (.int .u8 0) (.int .i64 0) (.int .i64 0) (.int .i64 y.e) (.int .u8 1) (.int .i64 y.a) (.int .u8 y.p) (.int .i64 y.f) (.int .i64 y.b)
 have z1:=b1.size
 have b02:Below w.heap.size w w2:=b1.trans (b2.mono (by omega))
 obtain⟨X,hX⟩:∃X,w1.heap.size=X:=⟨_,rfl⟩
 have HP:Hid (w2.heap[X]? =some (.cells #[.int .i64 y.e,.int .u8 1,.int .i64 y.a,.int .u8 y.p,.int .i64 y.f,.int .i64 y.b] 46 (0,0))∧w.heap.size≤X∧Below w.heap.size w w2):=hide (by rw[←hX];exact⟨P2,z1,b02⟩)
 rw[hX]at g0 g1 g2 g3 g4 g5
 have E2:=hide (EN.out w2 b02)
 have c32:=(CE.out w2 b02).1
 rw[hX]at hw2
 clear PG EN b1 b2 P2 z1 b02 s2 c3
 go_wp2_with fail
 refine E2.out.mono ?_
 rintro E w3 ⟨rfl,b3⟩
 obtain⟨P2,hwX,b02⟩:=HP.out
 have P3:=(b3.block _ (ay P2)).trans P2
 have fC:Below w.heap.size w w3:=b02.trans (b3.mono b02.size)
 obtain⟨k0,k1,k2,k3,k4,k5⟩:=aR P3
 obtain⟨c3,c4⟩:=CE.out w3 fC
 have R3:=hide (RN.out w3.drew fC.drew)
 have H3:=hide (And.intro P3 (And.intro hwX fC))
 clear E2 HP P2 hwX b02 P3 fC b3 c32 g0 g1 g2 g3 g4 g5 RN
 go_wp2_with fail
 obtain⟨W0,hW0⟩:∃x,w3.drew=x:=⟨_,rfl⟩
 have c3d:W0.cell? ⟨n,3,none⟩=some (.pointer (some ⟨p,0,none⟩)):=by rw[←hW0];exact c3
 rw[hW0]at R3
 have B0:Hid (Below w.heap.size w W0∧W0.heap[X]? =some (.cells #[.int .i64 y.e,.int .u8 1,.int .i64 y.a,.int .u8 y.p,.int .i64 y.f,.int .i64 y.b] 46 (0,0))):=hide (by rw[←hW0];exact⟨H3.out.2.2.drew,H3.out.1⟩)
 refine kM (ops:=(aB 8 f90)) (S:=fun w'=>w'.cell? ⟨n,3,none⟩=some (.pointer (some ⟨p,0,none⟩))) (by kernel_rfl) aof ?_
 rw[aur,hW0]
 refine bu apx c3d ?_
 refine bu aqi c3d ?_
 refine bu ap3 c3d ?_
 refine bu apJ c3d ?_
 refine bu alc c3d ?_
 refine bu am4 c3d ?_
 refine bu alf c3d ?_
 refine dm arl ?_
 refine aJ rfl (by rfl) (fun K hK=>?_)
 go_simp
 refine R3.out.mono ?_
 rintro E w4 ⟨rfl,b4⟩
 have jN:=B0.out.1.trans (b4.mono B0.out.1.size)
 have c34:=(CE.out w4 jN).1
 have B4:=hide (And.intro jN ((b4.block X (ay B0.out.2)).trans B0.out.2))
 clear b4 jN
 go_wp2_with fail
 refine bf hK c34 ?_
 clear hK K
 refine dm aqO ?_
 refine aJ rfl (by rfl) (fun K hK=>?_)
 go_simp
 go_wp2_with fail
 refine bf hK c34 ?_
 clear hK K
 refine dm aoi ?_
 refine aJ rfl (by rfl) (fun K hK=>?_)
 go_simp
 rw[HMX.out]
 refine(FL.out _ B4.out.1).mono ?_
 rintro E w5 ⟨rfl,K5,k5'⟩
 have c35:w5.cell? ⟨n,3,none⟩=some (.pointer (some ⟨p,0,none⟩)):=(by obtain⟨F5,N5,_⟩:=K5;exact N5.cs.c3)
 have K5:=hide (And.intro K5 k5')
 clear k5'
 go_wp2_with fail
 refine bf hK c35 ?_
 clear hK K
 refine bu afZ c35 ?_
 refine cZ ato ?_
 obtain⟨⟨F5,N5,o5,f5⟩,k5'⟩:=K5.out
 have hX5:w5.heap[X]? =some (.cells #[.int .i64 y.e,.int .u8 1,.int .i64 y.a,.int .u8 y.p,.int .i64 y.f,.int .i64 y.b] 46 (0,0)):=(k5' X H3.out.2.1 (ay B4.out.2)).trans B4.out.2
 have N5':=hide (And.intro N5 (And.intro o5 (And.intro f5 hX5)))
 have AK:Hid (∀W,Below w5.heap.size w5 W→Calls prog 168 #[.agg #[.int .i64 y.e,.int .u8 1,.int .i64 y.a,.int .u8 y.p,.int .i64 y.f,.int .i64 y.b],.int .i64 xa] W fun E w'=>E=.returned (.tuple #[.agg #[.int .i64 z.e,.int .u8 z.r,.int .i64 z.a,.int .u8 z.p,.int .i64 z.f,.int .i64 z.b],.bool kb,.int .i64 ke])∧Below W.heap.size W w'):=hide fun W hW=>AK0.out W (N5'.out.1.st.gQ.below hW)
 have xa5:x.a=xa:=HA.out
 have SX:Hid (∀W,Below w5.heap.size w5 W→W.cell? ⟨X,0,none⟩=some (.int .i64 y.e)∧W.cell? ⟨X,1,none⟩=some (.int .u8 1)∧W.cell? ⟨X,2,none⟩=some (.int .i64 y.a)∧W.cell? ⟨X,3,none⟩=some (.int .u8 y.p)∧W.cell? ⟨X,4,none⟩=some (.int .i64 y.f)∧W.cell? ⟨X,5,none⟩=some (.int .i64 y.b)∧W.cell? ⟨n,4,none⟩=some (.int .i64 xa)):=hide fun W hW=>by
  obtain⟨q0,q1,q2,q3,q4,q5⟩:=aR ((hW.block X (ay N5'.out.2.2.2)).trans N5'.out.2.2.2)
  exact⟨q0,q1,q2,q3,q4,q5,HA.out▸(N5'.out.1.below hW).cs.c4⟩
 clear K5 N5 o5 f5 k5' hX5 xa5 B4 H3 R3 FL c3 c34 c35 c4 k0 k1 k2 k3 k4 k5 AK0
 go_wp2_with fail
 go_cut [6,7,8]from 45 to 55 (fun v6 v7 v8 wx=>∃Y,v6=.pointer (some ⟨Y,0,none⟩)∧v7=.bool kb∧v8=.int .i64 ke∧Hid (wx.heap[Y]? =some (.cells (cp z) 46 (0,0))∧Below w5.heap.size w5 wx∧w5.heap.size≤Y))
 case first=>
  obtain⟨W0,hW0⟩:∃x,w5.drew=x:=⟨_,rfl⟩
  have D0:Hid (Below w5.heap.size w5 W0):=hide (by rw[←hW0];exact(Below.refl _ _).drew)
  refine kM (ops:=(aB 11 f90)) (S:=fun W=>W.cell? ⟨X,0,none⟩=some (.int .i64 y.e)∧W.cell? ⟨X,1,none⟩=some (.int .u8 1)∧W.cell? ⟨X,2,none⟩=some (.int .i64 y.a)∧W.cell? ⟨X,3,none⟩=some (.int .u8 y.p)∧W.cell? ⟨X,4,none⟩=some (.int .i64 y.f)∧W.cell? ⟨X,5,none⟩=some (.int .i64 y.b)∧W.cell? ⟨n,4,none⟩=some (.int .i64 xa)) (by kernel_rfl) an7 ?_
  rw[atS,hW0]
  refine bu aoj (SX.out _ D0.out) ?_
  refine bu ap5 (SX.out _ D0.out) ?_
  refine bu aos (SX.out _ D0.out) ?_
  refine bu anZ (SX.out _ D0.out) ?_
  refine bu akW (SX.out _ D0.out) ?_
  refine bu ana (SX.out _ D0.out) ?_
  refine qG atM ?_ ?_
  ·refine aJ rfl (by rfl) (fun K hK=>?_)
   go_simp
   refine(AK.out _ D0.out).mono ?_
   rintro E U1 ⟨rfl,bU1⟩
   have D1:=hide (D0.out.trans (bU1.mono D0.out.size))
   clear bU1
   go_wp2_with fail
   refine bf hK (SX.out _ D1.out) ?_
   clear hK K
   refine bu ajy (SX.out _ D1.out) ?_
   refine bu aky (SX.out _ D1.out) ?_
   refine bu akC (SX.out _ D1.out) ?_
   refine bu af9 (SX.out _ D1.out) ?_
   refine dm al9 ?_
   obtain⟨U2,hU2,sU2,bU2,qU2⟩:=au U1 #[.int .i64 0,.int .u8 0,.int .i64 0,.int .u8 0,.int .i64 0,.int .i64 0] 46
   have D2:=hide (D1.out.trans (bU2.mono D1.out.size))
   have Q2:=hide qU2
   have GX:=hide (D1.out.size)
   clear bU2 qU2 sU2
   refine aJ rfl (by rfl) (fun K hK=>?_)
   go_simp
   go_wp2_with fail
   refine bf hK (SX.out _ D2.out) ?_
   clear hK K
   refine dm adV ?_
   obtain⟨V,hV,pV,gV,⟨y0,y1,y2,y3,y4,y5⟩,fr,zz⟩:=gN Q2.out (.int .i64 z.e) (.int .u8 z.r) (.int .i64 z.a) (.int .u8 z.p) (.int .i64 z.f) (.int .i64 z.b)
   have f0:=fr 0;have f1:=fr 1;have f2:=fr 2;have f3:=fr 3;have f4:=fr 4;have f5:=fr 5
   have DV:=hide (aG D2.out gV GX.out D2.out.size)
   have PV:=hide pV
   clear gV pV fr zz
   refine aJ rfl (by rfl) (fun K hK=>?_)
   go_simp
   go_wp2_with fail
   refine bf hK (SX.out _ DV.out) ?_
   clear hK K
   refine bu yu (SX.out _ DV.out) ?_
   refine bu vY (SX.out _ DV.out) ?_
   refine cZ ahD ?_
   go_wp2_with fail
   go_meet
   case rel=>exact⟨_,rfl,rfl,rfl,hide ⟨PV.out,DV.out,GX.out⟩⟩
  ·obtain⟨U4,hU4,sU4,bU4,qU4⟩:=au W0 #[.int .i64 0,.int .u8 0,.int .i64 0,.int .u8 0,.int .i64 0,.int .i64 0] 46
   have D4:=hide (D0.out.trans (bU4.mono D0.out.size))
   have Q4:=hide qU4
   have GX:=hide (D0.out.size)
   clear bU4 qU4 sU4
   refine aJ rfl (by rfl) (fun K hK=>?_)
   go_simp
   go_wp2_with fail
   refine bf hK (SX.out _ D4.out) ?_
   clear hK K
   refine dm alQ ?_
   refine aJ rfl (by rfl) (fun K hK=>?_)
   go_simp
   refine(AK.out _ D4.out).mono ?_
   rintro E U5 ⟨rfl,bU5⟩
   have D5:=hide (D4.out.trans (bU5.mono D4.out.size))
   have Q5:=hide ((bU5.block _ (ay Q4.out)).trans Q4.out)
   clear bU5
   go_wp2_with fail
   refine bf hK (SX.out _ D5.out) ?_
   clear hK K
   refine bu ahp (SX.out _ D5.out) ?_
   refine bu aht (SX.out _ D5.out) ?_
   refine bu ahs (SX.out _ D5.out) ?_
   refine bu afX (SX.out _ D5.out) ?_
   refine dm adV ?_
   obtain⟨V,hV,pV,gV,⟨y0,y1,y2,y3,y4,y5⟩,fr,zz⟩:=gN Q5.out (.int .i64 z.e) (.int .u8 z.r) (.int .i64 z.a) (.int .u8 z.p) (.int .i64 z.f) (.int .i64 z.b)
   have f0:=fr 0;have f1:=fr 1;have f2:=fr 2;have f3:=fr 3;have f4:=fr 4;have f5:=fr 5
   have DV:=hide (aG D5.out gV GX.out D5.out.size)
   have PV:=hide pV
   clear gV pV fr zz
   refine aJ rfl (by rfl) (fun K hK=>?_)
   go_simp
   go_wp2_with fail
   refine bf hK (SX.out _ DV.out) ?_
   clear hK K
   refine bu yu (SX.out _ DV.out) ?_
   refine bu vY (SX.out _ DV.out) ?_
   refine cZ ahD ?_
   go_wp2_with fail
   go_meet
   case rel=>exact⟨_,rfl,rfl,rfl,hide ⟨PV.out,DV.out,GX.out⟩⟩
 case rest=>
 obtain⟨Y,rfl,rfl,rfl,vT⟩:=hcut
 obtain⟨PY,bY,hY⟩:=vT.out
 obtain⟨N5,o5,f5,_⟩:=N5'.out
 have N6:=N5.below bY
 have z5:=o5.size
 cases kb with
 |false=>
  have RR:Hid (dF n p q F w wc fx):=hide (by
   have e:=HX.out
   rw[if_neg (by simp)]at e
   rw[e]
   exact dF.join o5 f5 (dF.same N5 bY))
  clear PY bY hY N5 o5 f5 N6 vT N5' AK SX ST HX
  go_wp2
  go_ret
  exact⟨rfl,RR.out⟩
 |true=>
  unfold cp at PY
  obtain⟨j0,j1,j2,j3,j4,j5⟩:=aR PY
  have c36:=N6.cs.c3
  obtain⟨hF0,hp0,hlt⟩:=HF0.out
  have n50:¬F5 0:=fun e=>by
   rcases f5 0 e with e|e
   ·exact hF0 e
   ·omega
  have nY:¬F5 Y:=fun e=>by have:=N5.st.lt Y e;omega
  have S6:Hid (Calls prog 57 #[.pointer (some ⟨p,0,none⟩),.agg #[.int .i64 z.e,.int .u8 z.r,.int .i64 z.a,.int .u8 z.p,.int .i64 z.f,.int .i64 z.b]] wc.drew fun E w'=>E=.returned (.int .i64 0)∧Hid (dF n p q F w w' fx)∧w'.heap[Y]? =some (.cells #[.int .i64 z.e,.int .u8 z.r,.int .i64 z.a,.int .u8 z.p,.int .i64 z.f,.int .i64 z.b] 46 (0,0))∧w'.cell? ⟨n,3,none⟩=some (.pointer (some ⟨p,0,none⟩))):=hide (by
   refine(ST.out wc.drew F5 (N6.below (Below.refl _ _).drew) n50 rfl).mono ?_
   rintro E w' ⟨rfl,k,kk⟩
   have e:=HX.out
   rw[if_pos rfl]at e
   rw[e]
   have k0:=k.out
   obtain⟨F7,N7,_⟩:=k0
   exact⟨rfl,hide (dF.join o5 f5 (k.out.ahead bY.drew)),(kk Y (ay PY) nY).trans PY,N7.cs.c3⟩)
  clear PY bY hY N5 o5 f5 N6 vT N5' AK SX ST HX z5 n50 nY hF0 hp0 hlt HF0
  go_wp2_with fail
  go_region_held3 (fun w'=>w'.cell? ⟨n,3,none⟩=some (.pointer (some ⟨p,0,none⟩))∧w'.cell? ⟨Y,0,none⟩=some (.int .i64 z.e)∧w'.cell? ⟨Y,1,none⟩=some (.int .u8 z.r)∧w'.cell? ⟨Y,2,none⟩=some (.int .i64 z.a)∧w'.cell? ⟨Y,3,none⟩=some (.int .u8 z.p)∧w'.cell? ⟨Y,4,none⟩=some (.int .i64 z.f)∧w'.cell? ⟨Y,5,none⟩=some (.int .i64 z.b)) (first|exact⟨c36,j0,j1,j2,j3,j4,j5⟩|exact⟨c37,e7.c0,e7.c1,e7.c2,e7.c3,e7.c4,e7.c5⟩|go_keep)
   (first|(go_at_call 57;refine S6.out.mono ?_;rintro E w7 ⟨rfl,RR,q7,c37⟩;have e7:=aR q7))
  clear S6 e7 c36 c37 j0 j1 j2 j3 j4 j5
  go_wp2
  go_ret
  exact⟨rfl,RR.out⟩
theorem aiS (n p q:Nat)(F:Nat→Prop)(w:World)(x:Ns)(h:Nd n p q F w x)(hR:iY x.s)(h3:T3 x.s.d)(h0:¬F 0)(hon:x.s.d.on=true)(hr:x.s.p.r=1)(ha:In64 x.a)(hra:Cm.lastN 0 x.s.r≤x.a)(hfl:(Rst.aN x.s x.a).1=0)(hR2:iY (Rst.aN x.s x.a).2)(h32:T3 (Rst.aN x.s x.a).2.d)(hfz:ig (Rol.ak x.s.p x.a))(hst:Rol.jF x.s.p x.a=true→(Rst.dB (Rst.aN x.s x.a).2 (Rol.ak x.s.p x.a)).1=0):
  Calls prog 39 #[.pointer (some ⟨n,0,none⟩)] w fun E w'=>E=.returned (.int .i64 0)∧dF n p q F w w' x.fl:=by
 have kQ:∀(fn:Fn) (first cap:Array Value) (w:World),(Instr.makeFunc fn first cap).run prog w=.ok (.func fn first cap) w:=fun _ _ _ _=>rfl
 have lt:=h.lt
 have hw0:=h.st.gQ.pos
 have CL:=hide (rD n p q F w x h hon 90 #[.pointer (some ⟨n,0,none⟩)] #[] _ (enters_of func90 (by kernel_rfl) rfl) rfl (fun e W w'=>e=0∧dF n p q F W w' x.fl) (fun W hW=>by
  refine(aj3 n p q F W x (h.below hW) hR h3 h0 hr ha hra hfl hR2 h32 hfz hst).mono ?_
  rintro E w' ⟨rfl,k⟩
  have k0:=k
  obtain⟨F',N',o',f'⟩:=k0
  exact⟨0,rfl,rfl,fun g g1 g2=>o'.block g g2 fun e=>by have:=lt g e;omega,o'.size,rfl,k⟩))
 have FIN:Hid (∀W W1 B w4,Below w.heap.size w W→w.heap.size≤B∧B<W.heap.size→W1.grownBy w4 (some B)→dF n p q F W W1 x.fl→dF n p q F w w4 x.fl):=hide fun W W1 B w4 hW hB g k=>((k.toQ hW).put lt hw0 hB g).toS hW.size
 generalize x.fl=y at*
 clear h hR h3 h0 hon hr ha hra hfl hR2 h32 hfz hst lt hw0
 go_enter func39,ntmps39
 go_wp2_with fail
 refine CL.out.mono ?_
 rintro E w4 ⟨e,rfl,W,W1,B,hW,hB,g,rfl,k⟩
 have RR:=hide (FIN.out W W1 B w4 hW hB g k)
 clear CL FIN hW hB g k
 go_wp2
 go_ret
 exact⟨rfl,RR.out⟩
end Go.Proofs.YtlmkaljjocflmaaGreatDoor
