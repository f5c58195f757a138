/- Texts. -/
import Derived.Test.YtlmkaljjocflmaaGreatDoorBH7
import Derived.Test.YtlmkaljjocflmaaGreatDoorBH9
import Derived.Test.YtlmkaljjocflmaaGreatDoorBH3
import Derived.Test.YtlmkaljjocflmaaGreatDoorBH2
import Derived.Test.YtlmkaljjocflmaaGreatDoorBH10
import Derived.BigQuiet
import Derived.Test.YtlmkaljjocflmaaGreatDoorBM2
import Derived.Test.YtlmkaljjocflmaaGreatDoorBH8
import Derived.Deep.RegionHeld3
import Derived.Test.YtlmkaljjocflmaaGreatDoorBH4
set_option maxRecDepth 100000
set_option maxHeartbeats 8000000
set_option linter.unusedVariables false
open Go.Proofs.Tryz
namespace Go.Proofs.YtlmkaljjocflmaaGreatDoor
open Go.RowKit
theorem avQ {V:World}{R:Nat}{t:TypeId}{x y z:Value}(hR:V.heap[R]? =some (.cells #[x,y,z] t (0,0)))(c:Value):
  ∃V',V.setCell ⟨R,2,none⟩ c=V'∧V'.heap[R]? =some (.cells #[x,y,c] t (0,0))∧V.grownBy V' (some R)∧V.cell? ⟨R,2,none⟩=some z∧V.frozen? ⟨R,2,none⟩=false:=
 ⟨_,rfl,aF hR 2 c,ax V ⟨R,2,none⟩ c,ai hR 2 rfl,aA hR 2⟩
theorem zR (e n:Int)(v:Value)(l:List Bm.Ov)(w:World)(h:bM w v l)(hl:l.length*40≤140737488351232):
  Calls prog 228 #[cK e n v] w fun E w'=>∃v',E=.returned (cK e n v')∧aT 71 w.heap.size w' v' l∧Below w.heap.size w w':=by
 unfold cK
 obtain⟨w1,hw1,aV,aj,hB⟩:=au w #[.int .i64 e,.int .i64 n,v] 273
 obtain⟨w2,hw2,dA,az,hR⟩:=au w1 #[.int .i64 0,.int .i64 0,.slice none 0 0] 273
 rw[aV]at hR
 have hB2:=(az.block w.heap.size (by omega)).trans hB
 have aO:Below w.heap.size w w2:=aj.trans (az.mono (by omega))
 have h2:=h.below aO
 obtain⟨ao,cap,rfl,_,_⟩:=h.shape
 have c2:=ai hB2 2 rfl
 have HB:=hide hB2
 have HR:=hide hR
 clear hB hB2 hR aj az
 go_enter func228,ntmps228
 go_wp2_with fail
 refine(abu _ l _ h2 hl).mono ?_
 rintro E w3 ⟨v3,rfl,bK,aC⟩
 have bO:=aC.size
 have hB3:=(aC.block w.heap.size (by omega)).trans HB.out
 have dP:=(aC.block (w.heap.size+1) (by omega)).trans HR.out
 have bq:=aO.trans (aC.mono (by omega))
 obtain⟨ah,ch,hvl,_,_⟩:=bK.is.shape
 subst hvl
 obtain⟨X,hX,cX,gX,q2,q3⟩:=avQ hB3 (.slice ah l.length ch)
 have szX:=gX.size
 have wu:=(gX.block (w.heap.size+1) (by omega) (by simp)).trans dP
 have vH:=bK.nD gX (by omega)
 have ab0:=aG bq gX (Nat.le_refl _) (by omega)
 have d0:=ai cX 0 rfl
 have d1:=ai cX 1 rfl
 have d2:=ai cX 2 rfl
 obtain⟨V',hV',fI,dO,⟨a0,a1,a2⟩,⟨f0,f1,f2⟩,⟨z0,z1,z2⟩⟩:=gy wu (.int .i64 e) (.int .i64 n) (.slice ah l.length ch)
 have fu:=aG ab0 dO (by omega) (by omega)
 have ab1:=(vH.nD dO (by omega)).bn (base':=w.heap.size) (by omega)
 clear HB HR hB3 dP cX gX wu fI dO bK vH bq ab0 aC c2
 go_wp2
 refine bodyPost_ret (v:=.agg #[.int .i64 e,.int .i64 n,.slice ah l.length ch]) (by simp[results,results228,go_sem,z0,z1,z2]) rfl ?_
 exact⟨_,rfl,ab1,fu⟩
theorem aoz {l:List Cm.Cv}{k:Nat}{c:Cm.Cv}(hk:l[k]? =some c)(hl:l.length=k+1)(e:Int):Cm.lastN e l=c.n:=by
 rcases List.eq_nil_or_concat l with rfl|⟨r,d,rfl⟩
 ·simp at hk
 ·rw[List.concat_eq_append]at hk hl⊢
  rw[List.length_append,List.length_singleton]at hl
  obtain rfl:r.length=k:=by omega
  rw[Rl.dU r d e]
  simp at hk
  rw[hk]
theorem afF (v:Value)(rs:List Cw)(w:World)(h:eD w v rs)(hl:rs.length≤1048576):
  Calls prog 238 #[v] w fun E w'=>E=.returned (.int .i64 (Cm.lastN 0 (aD rs)))∧w=w':=by
 by_cases h0:rs.length=0
 ·have hr:rs=[]:=List.eq_nil_of_length_eq_zero h0
  subst hr
  obtain⟨ao,cap,rfl,_,_⟩:=h.shape
  clear h
  go_enter func238,ntmps238
  go_wp2
  go_ret
  exact⟨rfl,rfl⟩
 ·obtain⟨k,hk⟩:∃k,rs.length=k+1:=⟨rs.length-1,by omega⟩
  obtain⟨g,off,cap,rfl,_,_,_,hcell⟩:=h.full (by omega)
  obtain⟨c,hck⟩:∃c,rs[k]? =some c:=⟨rs[k]'(by omega),by rw[List.getElem?_eq_getElem]⟩
  obtain⟨_,c1,_⟩:=hcell k c hck
  have hL:Cm.lastN 0 (aD rs)=c.n:=aoz (k:=k) (c:=c.c) (by unfold aD;rw[List.getElem?_map,hck];rfl) (by unfold aD;rw[List.length_map];exact hk) 0
  rw[hL,hk]
  have hne:(((k+1:Nat):Int)==0)=false:=by simp;omega
  have hw:IntKind.i64.wrap (((k+1:Nat):Int)-1)=(k:Int):=by rw[aQ _ (by omega) (by omega)];omega
  have hk1:(k:Int)<((k+1:Nat):Int):=by omega
  clear h hcell hck hL
  go_enter func238,ntmps238
  go_wp2
  go_ret
  exact⟨rfl,rfl⟩
theorem agf (v:Value)(rs:List Cw)(e n:Int)(vo:Value)(w:World)(h:eD w v rs)(hl:rs.length≤1048576)(ho:∃a m k,vo=.slice a m k)(hn:0≤Cm.lastN 0 (aD rs)∧Cm.lastN 0 (aD rs)≤1048576):
  Calls prog 297 #[v,cK e n vo] w fun E w'=>E=.returned (.bool (decide (e-1=Cm.lastN 0 (aD rs))))∧Below w.heap.size w w':=by
 unfold cK
 obtain⟨w1,hw1,aV,aj,hB⟩:=au w #[.int .i64 e,.int .i64 n,vo] 273
 have c0:=ai hB 0 rfl
 have HE:Hid (∀m,Calls prog 238 #[v] (w1.drewN m) fun E w'=>E=.returned (.int .i64 (Cm.lastN 0 (aD rs)))∧∃q,w'=(w1.drewN m).drewN q):=hide fun m=>
  (afF v rs (w1.drewN m) ((h.below aj).below (below_drewN (Below.refl _ _) m)) hl).mono fun E w' h=>⟨h.1,0,by rw[←h.2];rfl⟩
 obtain⟨ao,cap,hv,_,_⟩:=h.shape
 obtain⟨a,m,k,rfl⟩:=ho
 generalize Cm.lastN 0 (aD rs)=z at*
 have hw:IntKind.i64.wrap (z+1)=z+1:=aQ _ (by omega) (by omega)
 have hd:decide (e-1=z)=(e==z+1):=by
  by_cases h:e-1=z
  ·rw[decide_eq_true h];simp;omega
  ·rw[decide_eq_false h];simp;omega
 rw[hd]
 clear h hB hd
 subst hv
 go_enter func297,ntmps297
 go_wp2_with fail
 go_quiet ((go_at_call 238;refine Calls.quiet_of (HE.out _)))
 go_wp2
 go_ret
 exact⟨rfl,below_drewN aj _⟩
theorem nR (p q:Nat)(w:World)(u1 u2:Value)(hB:w.heap[p]? =some (.cells #[.pointer (some ⟨q,0,none⟩),u1,u2] 276 (0,0))):
  Calls prog 226 #[.pointer (some ⟨p,0,none⟩)] w fun E w'=>E=.returned (.bool true)∧w=w':=by
 have c0:=ai hB 0 rfl
 clear hB
 go_enter func226,ntmps226
 go_wp2
 go_ret
 exact⟨rfl,rfl⟩
def aaa (e n:Int) (l:List Bm.Ov):List Int:=if Rn.chk e n l=0 then Rl.fr ⟨e,n,l⟩else []
theorem zM (e n:Int)(v:Value)(l:List Bm.Ov)(w:World)(h:bM w v l)(hf:dZ l)(hl:l.length≤140737488355328):
  Calls prog 320 #[cK e n v] w fun E w'=>∃vb,E=.returned (.tuple #[vb,.int .i64 (Rn.chk e n l)])∧Own .u8 5 w.heap.size w' vb (aaa e n l)∧Below w.heap.size w w':=by
 obtain⟨ao,cap,hv,_,_⟩:=h.shape
 obtain⟨w1,hw1,aV,aj,hB⟩:=au w #[.int .i64 e,.int .i64 n,v] 273
 have c0:w1.cell? ⟨w.heap.size,0,none⟩=some (.int .i64 e):=ai hB 0 rfl
 have c1:w1.cell? ⟨w.heap.size,1,none⟩=some (.int .i64 n):=ai hB 1 rfl
 have c2:w1.cell? ⟨w.heap.size,2,none⟩=some v:=ai hB 2 rfl
 have HC:=hide (aqy e n v l w1 (h.below aj) hf hl)
 unfold cK at HC⊢
 rw[hv]at hw1 c2 HC⊢
 obtain⟨ch,hch⟩:∃c,Rn.chk e n l=c:=⟨_,rfl⟩
 have KC:=hide hch
 rw[hch]at HC⊢
 clear h hf hl hB hv hch
 go_enter func320,ntmps320
 go_wp2_with fail
 refine HC.out.mono ?_
 rintro E w2 ⟨vb,rfl,own,az⟩
 have aO:=aj.trans (az.mono aj.size)
 obtain⟨ab,cb,hvb,_,_⟩:=own.is.shape
 by_cases hc0:ch=0
 ·have hz:(Rn.out e n l).length≤52233:=Rn.xq e n l
  have HF:=hide (aaO (.slice none 0 0) vb [] (Rn.out e n l) w2 (Is.nil _ _) own.is (by simp) (by omega))
  have ea:ape (Rn.out e n l)=0:=by unfold ape;rw[if_pos (by omega)]
  have ed:apd [] (Rn.out e n l)=aaa e n l:=by
   unfold apd aaa
   rw[if_pos (by omega),if_pos (by rw[KC.out];exact hc0),Rn.kX (by rw[KC.out];exact hc0)]
   rfl
  rw[ea,ed]at HF
  subst hvb
  subst hc0
  clear own aj az ea ed hz HC
  go_wp2_with fail
  refine HF.out.mono ?_
  rintro E w3 ⟨vf,rfl,bK,aC⟩
  obtain⟨af,cf,hvf,_,_⟩:=bK.is.shape
  have O3:=hide (bK.bn (base':=w.heap.size) aO.size)
  have B3:=hide (aO.trans (aC.mono aO.size))
  subst hvf
  clear bK aC aO HF
  go_wp2
  go_ret2
  exact⟨_,rfl,O3.out,B3.out⟩
 ·have ed:aaa e n l=[]:=by unfold aaa;rw[if_neg (by rw[KC.out];exact hc0)]
  have ED:=hide ed
  have hne:(ch !=0)=true:=by simp[hc0]
  subst hvb
  clear own aj az ed HC
  go_wp2
  go_ret2
  exact⟨_,rfl,by rw[ED.out];exact Own.nil _ _ _ _,aO⟩
theorem tT.put {p q:Nat}{w:World}{l:List Cm.Cv}{bk:Bool}{v:Value}{rs:List Cw}(h:tT p q w l bk v rs)(b:Bool):tT p q (w.setCell ⟨p,1,none⟩ (.bool b)) l b v rs∧Out (fun g=>g=p) w (w.setCell ⟨p,1,none⟩ (.bool b)):=by
 have ho:Out (fun g=>g=p) w (w.setCell ⟨p,1,none⟩ (.bool b)):=Out.aM (ax w ⟨p,1,none⟩ (.bool b)) fun g hg=>by simp at hg;exact hg.symm
 refine⟨⟨by rw[aF h.blk];rfl,h.log.agree fun g hg=>ho.block g (h.log.lt g hg) fun e=>?_⟩,ho⟩
 exact h.log.ne h.blk (by decide) (by decide) (e▸hg)
theorem RW.flag {p q:Nat}{F:Nat→Prop}{w:World}{s:Rl.Rs}(h:RW p q F w s)(b:Bool):jQ p q F w (w.setCell ⟨p,1,none⟩ (.bool b)) ⟨s.d,s.l,b⟩:=by
 obtain⟨F1,G1,h1,h2,rfl⟩:=h
 obtain⟨v,rs,hv,rfl⟩:=h2
 obtain⟨k1,k2⟩:=hv.put b
 have h2:Rk p q (fun g=>g=p∨QB v rs g) w s.l s.bk:=⟨v,rs,hv,rfl⟩
 refine⟨_,⟨F1,_,h1.out k2 fun g hg e=>vD h2 h1 g (.inl e) hg,⟨v,rs,k1,rfl⟩,rfl⟩,k2.mono fun g hg=>.inl (.inr (.inl hg)),fun g hg=>.inl hg⟩
theorem afG (p q:Nat)(F:Nat→Prop)(w:World)(s:Rl.Rs)(h:RW p q F w s):
  Calls prog 319 #[.pointer (some ⟨p,0,none⟩)] w fun E w'=>(Rl.ask s=true∧E=.returned (.int .i64 6)∧jQ p q F w w' (Rl.brk s))∨(Rl.ask s=false∧E=.returned (.int .i64 0)∧w=w'):=by
 have HF:=hide (h.flag true)
 obtain⟨F1,G1,h1,h2,rfl⟩:=h
 obtain⟨v,rs,hv,rfl⟩:=h2
 have HM:=hide (nR p q w _ _ hv.blk)
 have HO:=hide (xU q F1 w s.d h1)
 have c0:=ai hv.blk 0 rfl
 have c1:=ai hv.blk 1 rfl
 have f1:=aA hv.blk 1
 simp only[List.getElem_toArray,List.getElem_cons_zero,List.getElem_cons_succ]at c0 c1
 unfold Rl.ask
 generalize s.d.on=on at HO⊢
 generalize s.bk=bk at c1⊢
 clear hv h1
 cases bk<;>cases on
 ·go_enter func319,ntmps319
  go_wp2_with fail
  refine HM.out.mono ?_
  rintro E w1 ⟨rfl,rfl⟩
  go_wp2_with fail
  refine HO.out.mono ?_
  rintro E w1 ⟨rfl,rfl⟩
  go_wp2
  go_ret
  exact .inl ⟨rfl,rfl,HF.out⟩
 ·go_enter func319,ntmps319
  go_wp2_with fail
  refine HM.out.mono ?_
  rintro E w1 ⟨rfl,rfl⟩
  go_wp2_with fail
  refine HO.out.mono ?_
  rintro E w1 ⟨rfl,rfl⟩
  go_wp2
  go_ret
  exact .inr ⟨rfl,rfl,rfl⟩
 ·go_enter func319,ntmps319
  go_wp2_with fail
  refine HM.out.mono ?_
  rintro E w1 ⟨rfl,rfl⟩
  go_wp2
  go_ret
  exact .inl ⟨rfl,rfl,HF.out⟩
 ·go_enter func319,ntmps319
  go_wp2_with fail
  refine HM.out.mono ?_
  rintro E w1 ⟨rfl,rfl⟩
  go_wp2
  go_ret
  exact .inl ⟨rfl,rfl,HF.out⟩
theorem jy (p q:Nat)(F:Nat→Prop)(w:World)(s:Rl.Rs)(h:RW p q F w s):
  Calls prog 179 #[.pointer (some ⟨p,0,none⟩)] w fun E w'=>E=.returned (.int .i64 (Cm.lastN 0 s.l))∧w=w':=by
 obtain⟨F1,G1,h1,h2,rfl⟩:=h
 obtain⟨v,rs,hv,rfl⟩:=h2
 have HM:=hide (nR p q w _ _ hv.blk)
 have HE:=hide (afF v rs w hv.log.row.row hv.log.xw)
 rw[hv.log.is]at HE
 have c2:=ai hv.blk 2 rfl
 simp only[List.getElem_toArray,List.getElem_cons_zero,List.getElem_cons_succ]at c2
 clear hv h1
 go_enter func179,ntmps179
 go_wp2_with fail
 refine HM.out.mono ?_
 rintro E w1 ⟨rfl,rfl⟩
 go_wp2_with fail
 refine HE.out.mono ?_
 rintro E w1 ⟨rfl,rfl⟩
 go_wp2
 go_ret
 exact⟨rfl,rfl⟩
end Go.Proofs.YtlmkaljjocflmaaGreatDoor
namespace Go.Proofs.YtlmkaljjocflmaaGreatDoor
open Go.RowKit
open Bm (Ov)
theorem tJ {e n:Int}{l:List Ov}(h:Cm.chk e n l=0):dZ l∧l.length*40≤140737488351232∧In64 e∧In64 n∧l.length≤8:=by
 obtain⟨h1,h2,h3,h4,h5⟩:=Cm.bJ h
 obtain⟨k1,k2,k3⟩:=Bm.dM h5
 refine⟨fun o ho=>?_,by omega,⟨by omega,by omega⟩,⟨by omega,by omega⟩,k2⟩
 obtain⟨_,k2,k3,_⟩:=Om.gU (k3 o ho)
 have e1:o.k.size=o.k.data.toList.length:=rfl
 have e2:o.v.size=o.v.data.toList.length:=rfl
 have e3:o.kl=o.k.data.toList:=rfl
 have e4:o.vl=o.v.data.toList:=rfl
 rw[e3]at k2
 rw[e4]at k3
 omega
structure Rt (base:Nat) (w:World) (l:List Cm.Cv) (v:Value) (rs:List Cw):Prop where
 row:bD 35 base w v rs
 iH:gu base w rs
 is:aD rs=l
 good:∀c∈l,Cm.chk c.e c.n c.l=0
 few:l.length≤1048576
section
variable {base base':Nat} {w w':World} {l:List Cm.Cv} {v:Value} {rs:List Cw} {F G:Nat→Prop}
theorem Rt.nil (base:Nat)(w:World):Rt base w [] (.slice none 0 0) []:=⟨bD.nil _ _ _,fun c hc=>by simp at hc,rfl,fun c hc=>by simp at hc,by simp⟩
theorem Rt.ty (h:Rt base w l v rs):∀g,QB v rs g→∃cs t,w.heap[g]? =some (.cells cs t (0,0))∧(t=35∨t=71):=by
 rintro g (hb|⟨c,hc,hb⟩)
 ·obtain⟨cs,e⟩:=h.row.type hb
  exact⟨_,_,e,.inl rfl⟩
 ·obtain⟨cs,e⟩:=(h.iH c hc).type hb
  exact⟨_,_,e,.inr rfl⟩
theorem Rt.lt (h:Rt base w l v rs):∀g,QB v rs g→g<w.heap.size:=fun g hg=>by
 obtain⟨cs,t,e,_⟩:=h.ty g hg
 exact ay e
theorem Rt.agree (h:Rt base w l v rs)(ha:∀g,QB v rs g→w'.heap[g]? =w.heap[g]?):Rt base w' l v rs:=
 ⟨dH h.row fun b hb=>ha b (.inl hb),fun c hc=>dH (h.iH c hc) fun b hb=>ha b (.inr ⟨c,hc,hb⟩),h.is,h.good,h.few⟩
theorem Rt.below (h:Rt base w l v rs)(hb:Below w.heap.size w w'):Rt base w' l v rs:=h.agree fun g hg=>hb.block g (h.lt g hg)
theorem Rt.out (h:Rt base w l v rs)(ho:Out F w w')(hd:∀g,QB v rs g→¬F g):Rt base w' l v rs:=h.agree fun g hg=>ho.block g (h.lt g hg) (hd g hg)
theorem Rt.ne (h:Rt base w l v rs){b:Nat}{cs:Array Value}{t:TypeId}{fr:Nat×Nat}(hb:w.heap[b]? =some (.cells cs t fr))(h1:t≠35)(h3:t≠71):¬QB v rs b:=by
 intro hg
 obtain⟨cs',t',e,ht⟩:=h.ty b hg
 rw[hb]at e
 simp only[Option.some.injEq,Obj.cells.injEq]at e
 obtain⟨_,e2,_⟩:=e
 subst e2
 rcases ht with e|e
 ·exact h1 e
 ·exact h3 e
theorem Rt.len (h:Rt base w l v rs):rs.length=l.length:=by rw[←h.is,aD,List.length_map]
theorem Rt.get (h:Rt base w l v rs):∀c∈rs,Cm.chk c.e c.n c.l=0:=fun c hc=>by
 refine h.good c.c ?_
 rw[←h.is]
 exact List.mem_map.2 ⟨c,hc,rfl⟩
theorem Rt.isc (h:Rt base w l v rs):gD w v rs:=⟨h.row.row,fun c hc=>⟨(h.iH c hc).is,(tJ (h.get c hc)).2.2.1,(tJ (h.get c hc)).2.2.2.1⟩⟩
theorem Rt.grow {v':Value}{c:Cw}(h:Rt base w l v rs)(ho:bD 35 base w' v' (rs++[c]))(hk:bH 35 w w')(hc:aT 71 base w c.v c.l)(hg:Cm.chk c.e c.n c.l=0)(hn:l.length+1≤1048576):Rt base w' (l++[c.c]) v' (rs++[c]):=by
 refine⟨ho,fun d hd=>?_,by unfold aD;rw[List.map_append,←h.is];rfl,fun d hd=>?_,by rw[List.length_append,List.length_singleton];exact hn⟩
 ·rcases List.mem_append.1 hd with hd|hd
  ·exact(h.iH d hd).lu hk (by decide)
  ·rw[List.mem_singleton.1 hd]
   exact hc.lu hk (by decide)
 ·rcases List.mem_append.1 hd with hd|hd
  ·exact h.good d hd
  ·rw[List.mem_singleton.1 hd]
   exact hg
end
structure nJ (ps p pm bm:Nat) (w:World) (l:List Cm.Cv) (v:Value) (rs:List Cw):Prop where
 blk:w.heap[ps]? =some (.cells #[.pointer (some ⟨p,0,none⟩),v,.pointer (some ⟨pm,0,none⟩)] 288 (0,0))
 rest:Rt 0 w l v rs
 tb:Tb pm bm w (Rl.tab l)
def SB (ps pm bm:Nat) (v:Value) (rs:List Cw) (g:Nat):Prop:=g=ps∨g=pm∨g=bm∨QB v rs g
def Sk (ps p:Nat) (G:Nat→Prop) (w:World) (l:List Cm.Cv):Prop:=∃pm bm v rs,nJ ps p pm bm w l v rs∧G=SB ps pm bm v rs
section
variable {ps p pm bm q:Nat} {w w' w1 w2:World} {l:List Cm.Cv} {v:Value} {rs:List Cw} {F G F1:Nat→Prop}
theorem nJ.lt (h:nJ ps p pm bm w l v rs):∀g,SB ps pm bm v rs g→g<w.heap.size:=by
 rintro g (rfl|rfl|rfl|hg)
 ·exact ay h.blk
 ·exact h.tb.plt
 ·exact h.tb.blt
 ·exact h.rest.lt g hg
theorem nJ.agree (h:nJ ps p pm bm w l v rs)(ha:∀g,SB ps pm bm v rs g→w'.heap[g]? =w.heap[g]?):nJ ps p pm bm w' l v rs:=
 ⟨(ha ps (.inl rfl)).trans h.blk,h.rest.agree fun g hg=>ha g (.inr (.inr (.inr hg))),h.tb.agree (ha pm (.inr (.inl rfl))) (ha bm (.inr (.inr (.inl rfl))))⟩
theorem nJ.below (h:nJ ps p pm bm w l v rs)(hb:Below w.heap.size w w'):nJ ps p pm bm w' l v rs:=h.agree fun g hg=>hb.block g (h.lt g hg)
theorem nJ.out (h:nJ ps p pm bm w l v rs)(ho:Out F w w')(hd:∀g,SB ps pm bm v rs g→¬F g):nJ ps p pm bm w' l v rs:=h.agree fun g hg=>ho.block g (h.lt g hg) (hd g hg)
theorem Sk.lt (h:Sk ps p G w l):∀g,G g→g<w.heap.size:=by
 obtain⟨pm,bm,v,rs,h,rfl⟩:=h
 exact h.lt
theorem Sk.agree (h:Sk ps p G w l)(ha:∀g,G g→w'.heap[g]? =w.heap[g]?):Sk ps p G w' l:=by
 obtain⟨pm,bm,v,rs,h,rfl⟩:=h
 exact⟨pm,bm,v,rs,h.agree ha,rfl⟩
theorem Sk.below (h:Sk ps p G w l)(hb:Below w.heap.size w w'):Sk ps p G w' l:=h.agree fun g hg=>hb.block g (h.lt g hg)
theorem Sk.out (h:Sk ps p G w l)(ho:Out F w w')(hd:∀g,G g→¬F g):Sk ps p G w' l:=h.agree fun g hg=>ho.block g (h.lt g hg) (hd g hg)
end
def SW (ps p q:Nat) (F:Nat→Prop) (w:World) (s:Sto.Ss):Prop:=∃F1 G1,RW p q F1 w s.r∧Sk ps p G1 w s.l∧(∀g,G1 g→¬F1 g)∧Sto.Ok s∧F=fun g=>F1 g∨G1 g
def kg (ps p q:Nat) (F:Nat→Prop) (w w':World) (s':Sto.Ss):Prop:=∃F',SW ps p q F' w' s'∧Out F w w'∧∀g,F' g→F g∨w.heap.size≤g
section
variable {ps p q:Nat} {F G:Nat→Prop} {w w' w1 w2:World} {s s':Sto.Ss}
theorem SW.lt (h:SW ps p q F w s):∀g,F g→g<w.heap.size:=by
 obtain⟨F1,G1,h1,h2,_,_,rfl⟩:=h
 rintro g (hg|hg)
 ·exact h1.lt g hg
 ·exact h2.lt g hg
theorem SW.agree (h:SW ps p q F w s)(ha:∀g,F g→w'.heap[g]? =w.heap[g]?):SW ps p q F w' s:=by
 obtain⟨F1,G1,h1,h2,h3,h4,rfl⟩:=h
 exact⟨F1,G1,h1.agree fun g hg=>ha g (.inl hg),h2.agree fun g hg=>ha g (.inr hg),h3,h4,rfl⟩
theorem SW.below (h:SW ps p q F w s)(hb:Below w.heap.size w w'):SW ps p q F w' s:=h.agree fun g hg=>hb.block g (h.lt g hg)
theorem SW.ok (h:SW ps p q F w s):Sto.Ok s:=by
 obtain⟨F1,G1,h1,h2,h3,h4,rfl⟩:=h
 exact h4
theorem kg.trans {F1:Nat→Prop}(ho:Out F w w1)(hs:∀g,F1 g→F g∨w.heap.size≤g)(k:kg ps p q F1 w1 w2 s'):kg ps p q F w w2 s':=by
 obtain⟨F2,h1,h2,h3⟩:=k
 refine⟨F2,h1,ho.trans h2 hs,fun g hg=>?_⟩
 rcases h3 g hg with h|h
 ·exact hs g h
 ·exact .inr (Nat.le_trans ho.size h)
theorem kg.same (h:SW ps p q F w s)(hb:Below w.heap.size w w'):kg ps p q F w w' s:=⟨F,h.below hb,Out.of_below hb,fun g hg=>.inl hg⟩
theorem kg.pre (hb:Below w.heap.size w w1)(h:kg ps p q F w1 w2 s'):kg ps p q F w w2 s':=h.trans (Out.of_below hb) fun g hg=>.inl hg
end
end Go.Proofs.YtlmkaljjocflmaaGreatDoor
namespace Go.Proofs.YtlmkaljjocflmaaGreatDoor
open Go.RowKit
theorem Rq.grow {base:Nat}{w w':World}{l:List Cm.Cv}{v v':Value}{rs:List Cw}{c:Cw}(h:Rq base w l v rs)(ho:bD 273 base w' v' (rs++[c]))(hk:bH 273 w w')(hc:aT 71 base w c.v c.l)(hg:Rl.Good 0 (l++[c.c])):Rq base w' (l++[c.c]) v' (rs++[c]):=by
 refine⟨ho,fun d hd=>?_,by unfold aD;rw[List.map_append,←h.is];rfl,hg⟩
 rcases List.mem_append.1 hd with hd|hd
 ·exact(h.iH d hd).lu hk (by decide)
 ·rw[List.mem_singleton.1 hd]
  exact hc.lu hk (by decide)
theorem aze {base q:Nat}{F:Nat→Prop}{w:World}{l:List Cm.Cv}{v:Value}{rs:List Cw}{st:Dm.Ds}(h:Rq base w l v rs)(k:Pk q F w st):∀g,QB v rs g→¬F g:=by
 intro g hg hf
 obtain⟨cs,t,e,ht⟩:=h.ty g hg
 obtain⟨cs',t',fr,e',ht'⟩:=k.ty g hf
 rw[e]at e'
 simp only[Option.some.injEq,Obj.cells.injEq]at e'
 obtain⟨_,e2,_⟩:=e'
 subst e2
 rcases ht with rfl|rfl<;>rcases ht' with e|e|e<;>exact absurd e (by decide)
theorem Rq.out {base:Nat}{F:Nat→Prop}{w w':World}{l:List Cm.Cv}{v:Value}{rs:List Cw}(h:Rq base w l v rs)(ho:Out F w w')(hd:∀g,QB v rs g→¬F g):Rq base w' l v rs:=h.agree fun g hg=>ho.block g (h.lt g hg) (hd g hg)
def ajg (s:Rl.Rs):Prop:=Big 90000000 700000 s.d
theorem ajg.big {s:Rl.Rs}(h:ajg s):Big 100000000 800000 s.d:=Big.mono h (by decide) (by decide)
theorem ahW {n:Nat}(h:n≤52236):cnt n≤817:=by
 unfold cnt
 omega
theorem ahm (q:Nat)(F:Nat→Prop)(w:World)(st:Dm.Ds)(vb:Value)(bs:List Int)(h:Pk q F w st)(hs:Big 90000000 700000 st)(hb:Own .u8 5 0 w vb bs)(hbF:∀b,vb.ownBlock=some b→¬F b)(hl:bs.length≤52236):
  Calls prog 321 #[.pointer (some ⟨q,0,none⟩),vb] w fun E w'=>E=.returned (.int .i64 (Rl.ext st bs).1)∧bN q F w w' (Rl.ext st bs).2:=by
 have hc:=ahW hl
 have HW:=hide (nL q F w st 2 vb bs h hb.is (fun _=>hbF) (by omega) (by have:=hs.1.2.1;omega) hs.2 (by have:=hs.1.2.2;omega))
 have hs2:Big 100000000 800000 (Dm.write st 2 bs).2:=(lJ hs 2 bs).mono (by omega) (by omega)
 have HSY:Hid (∀W G,Pk q G W (Dm.write st 2 bs).2→Calls prog 189 #[.pointer (some ⟨q,0,none⟩)] W fun E w'=>E=.returned (.int .i64 (Dm.sync (Dm.write st 2 bs).2).1)∧bN q G W w' (Dm.sync (Dm.write st 2 bs).2).2):=hide fun W G hk=>aaK q G W _ hk (fun f=>Nat.le_trans (hs2.1.1 f) (by decide)) (Nat.le_trans hs2.1.2.1 (by decide)) hs2.2 (Nat.lt_of_le_of_lt hs2.1.2.2 (by decide))
 obtain⟨a,c,hv,_,_⟩:=hb.is.shape
 unfold Rl.ext
 generalize Dm.write st 2 bs=x at*
 obtain⟨e,st2⟩:=x
 simp only at*
 generalize Dm.sync st2=y at*
 obtain⟨f,st3⟩:=y
 simp only at*
 subst hv
 clear h hs hs2 hb
 by_cases he:e=0
 ·subst he
  simp only[ne_eq,not_true,if_false]
  go_enter func321,ntmps321
  go_wp2_with fail
  refine HW.out.mono ?_
  rintro E w1 ⟨rfl,F1,k1,k2,k3⟩
  have HS1:=hide (HSY.out w1 F1 k1)
  have K2:=hide k2
  have K3:=hide k3
  clear k1 k2 k3 HW HSY
  go_wp2_with fail
  refine HS1.out.mono ?_
  rintro E w2 ⟨rfl,J⟩
  have J:=hide (bN.trans K2.out K3.out J)
  go_wp2
  go_ret
  exact⟨rfl,J.out⟩
 ·simp only[ne_eq,he,not_false_eq_true,if_true]
  have hne:(e !=0)=true:=by simp[he]
  go_enter func321,ntmps321
  go_wp2_with fail
  refine HW.out.mono ?_
  rintro E w1 ⟨rfl,J⟩
  have J:=hide J
  clear HW HSY
  go_wp2
  go_ret
  exact⟨rfl,J.out⟩
theorem Tryz.amP:∀args w,(callFunc 228 args).run prog w=.ok (.enter 228 args) w:=enters_of func228 (by kernel_rfl) rfl
theorem aid {p q:Nat}{F1:Nat→Prop}{w wc:World}{d:Dm.Ds}{l:List Cm.Cv}{bk:Bool}{v:Value}{rs:List Cw}{c:Cw}(h1:Pk q F1 w d)(hv:tT p q w l bk v rs)(hb:Below w.heap.size w wc)(hc:aT 71 w.heap.size wc c.v c.l)(hg:Rl.Good 0 (l++[c.c]))(ty:TypeId):
  ∃V,wc.alloc (.cells #[.int .i64 c.e,.int .i64 c.n,c.v] 273)=V∧V.cell? ⟨p,2,none⟩=some v∧∃v2 w2,(Builtin.append_ #[92,92] ty #[v,.slice (some ⟨wc.heap.size,0,none⟩) 1 1]).run prog V=.ok v2 w2∧w2.cell? ⟨p,2,none⟩=some v∧w2.frozen? ⟨p,2,none⟩=false∧(∃a n k,v2=.slice a n k)∧
   (∃F',RW p q F' (w2.setCell ⟨p,2,none⟩ v2) ⟨d,l++[c.c],bk⟩∧Out (fun g=>F1 g∨g=p∨QB v rs g) w (w2.setCell ⟨p,2,none⟩ v2)∧∀g,F' g→(F1 g∨g=p∨QB v rs g)∨w.heap.size≤g):=by
 have hsz:=hb.size
 obtain⟨V,hV,iy,bg,jm⟩:=kE 273 wc #[.int .i64 c.e,.int .i64 c.n,c.v] 1 [c] rfl rfl (by simp[maxLen])
 have bwV:=hb.trans (bg.mono hsz)
 have qV:=hv.log.below bwV
 have BV:=(bwV.block p (ay hv.blk)).trans hv.blk
 have hone:∀d∈[c],d.v.oneCell'=true:=fun d hd=>by rw[List.mem_singleton.1 hd];exact hc.is.one
 obtain⟨v2,w2,hr,aW,iU,at2⟩:=nK (P:=prog) (w:=V) 92 ty 273 0 underlying92 Tryz.ahN v rs qV.row _ [c] jm.row hone (by have:=hv.log.xw;simp;omega) (Nat.zero_le _)
 have kp:bH 273 V w2:=bH.sN qV.row iU
 have q2:=qV.grow aW kp ((hc.below bg).bn (Nat.zero_le _)) hg
 have hpn:¬v.ownBlock=some p:=fun e=>qV.ne BV (by decide) (by decide) (.inl e)
 have B2:=(iU.block p (ay BV) (fun e=>hpn e.symm)).trans BV
 obtain⟨X,hX,bX,gX,fX⟩:=zi B2 2 v2
 have qX:Rq 0 X (l++[c.c]) v2 (rs++[c]):=q2.agree fun g hg=>gX.block g (q2.lt g hg) fun e=>by
  simp at e
  exact q2.ne B2 (by decide) (by decide) (e▸hg)
 have oV:Out (fun g=>F1 g∨g=p∨QB v rs g) w V:=Out.of_below bwV
 have o2:Out (fun g=>F1 g∨g=p∨QB v rs g) w w2:=oV.trans (Out.aM (F:=fun g=>F1 g∨g=p∨QB v rs g) iU fun g hg=>.inr (.inr (.inl hg))) fun g hg=>.inl hg
 have oX:Out (fun g=>F1 g∨g=p∨QB v rs g) w X:=o2.trans (Out.aM (F:=fun g=>F1 g∨g=p∨QB v rs g) gX fun g hg=>.inr (.inl (by simpa using hg.symm))) fun g hg=>.inl hg
 have hk:Rk p q (fun g=>g=p∨QB v rs g) w l bk:=⟨v,rs,hv,rfl⟩
 have KX:Pk q F1 X d:=by
  have o:Out (fun g=>g=p∨QB v rs g) w X:=by
   refine((Out.of_below (F:=fun g=>g=p∨QB v rs g) bwV).trans (Out.aM (F:=fun g=>g=p∨QB v rs g) iU fun g hg=>.inr (.inl hg)) fun g hg=>.inl hg).trans (Out.aM (F:=fun g=>g=p∨QB v rs g) gX fun g hg=>.inl (by simpa using hg.symm)) fun g hg=>.inl hg
  exact h1.out o fun g hg e=>vD hk h1 g e hg
 refine⟨V,hV,ai BV 2 rfl,v2,w2,hr,ai B2 2 rfl,fX,?_,?_⟩
 ·obtain⟨a1,k1,h1,_⟩:=aW.row.shape
  exact⟨a1,_,k1,h1⟩
 ·rw[hX]
  refine⟨_,⟨F1,_,KX,⟨v2,rs++[c],⟨bX,qX⟩,rfl⟩,rfl⟩,oX,?_⟩
  rintro g (e|e|e|⟨d,hd,e⟩)
  ·exact .inl (.inl e)
  ·exact .inl (.inr (.inl e))
  ·rcases at2 with h|h
   ·exact .inl (.inr (.inr (.inl (h▸e))))
   ·rw[h]at e
    simp at e
    exact .inr (by omega)
  ·rcases List.mem_append.1 hd with hd|hd
   ·exact .inl (.inr (.inr (.inr ⟨d,hd,e⟩)))
   ·rw[List.mem_singleton.1 hd]at e
    exact .inr (hc.block g e).1
theorem ajS (p q:Nat)(F:Nat→Prop)(w:World)(s:Rl.Rs)(c:Cw)(h:RW p q F w s)(hs:ajg s)(hi:bM w c.v c.l)(hf:dZ c.l)(h64:In64 c.e∧In64 c.n)(hlo:c.l.length*40≤140737488351232)(jg:0<c.l.length→∀b,c.v.ownBlock=some b→¬F b):
  Calls prog 293 #[.pointer (some ⟨p,0,none⟩),cK c.e c.n c.v] w fun E w'=>E=.returned (.int .i64 (Rl.aN s c.c).1)∧jQ p q F w w' (Rl.aN s c.c).2:=by
 obtain⟨ao,cap,hcv,_,_⟩:=hi.shape
 obtain⟨w1,hw1,aV,aj,hB0⟩:=au w #[.int .i64 c.e,.int .i64 c.n,c.v] 273
 have c0:w1.cell? ⟨w.heap.size,0,none⟩=some (.int .i64 c.e):=ai hB0 0 rfl
 have c1:w1.cell? ⟨w.heap.size,1,none⟩=some (.int .i64 c.n):=ai hB0 1 rfl
 have c2:w1.cell? ⟨w.heap.size,2,none⟩=some c.v:=ai hB0 2 rfl
 have hW1:=h.below aj
 have HR:=hide (afG p q F w1 s hW1)
 have hb:=hs.big
 have HLT:=hide h.lt
 have HCF:=hide jg
 clear jg
 unfold cK
 rw[hcv]at hw1 c2⊢
 cases ha:Rl.ask s with
 |true=>
  have e1:Rl.aN s c.c=(6,Rl.brk s):=by unfold Rl.aN;rw[ha];rfl
  rw[e1]
  have B1:=hide aj
  clear h hs hi hf h64 hlo hW1 hB0 aj e1
  go_enter func293,ntmps293
  go_wp2_with fail
  refine HR.out.mono ?_
  rintro E w2 (⟨_,rfl,J⟩|⟨h0,_⟩)
  ·have J:=hide (jQ.pre B1.out J)
   clear HR
   go_wp2
   go_ret
   exact⟨rfl,J.out⟩
  ·rw[ha]at h0
   cases h0
 |false=>
  have qN:=hide (zM c.e c.n c.v c.l w1 (hi.below aj) hf (by omega))
  unfold cK at qN
  rw[hcv]at qN
  obtain⟨ch,hch⟩:∃x,Rn.chk c.e c.n c.l=x:=⟨_,rfl⟩
  rw[hch]at qN
  have KC:=hide hch
  have oM:=hide hcv
  have IOX:=hide hi
  have WA:=hide hW1
  have FO:=hide (show dZ c.l∧(In64 c.e∧In64 c.n)∧c.l.length*40≤140737488351232 from⟨hf,h64,hlo⟩)
  have HB:=hide hB0
  have B1:=hide aj
  have HS:=hide hs
  have afW:=hide ha
  clear h hs hi hf h64 hlo hW1 hch hcv hb hB0 aj ha
  go_enter func293,ntmps293
  go_wp2_with fail
  refine HR.out.mono ?_
  rintro E w2 (⟨h0,_⟩|⟨_,rfl,rfl⟩)
  ·rw[afW.out]at h0
   cases h0
  clear HR
  go_wp2_with fail
  refine qN.out.mono ?_
  rintro E w2 ⟨vb,rfl,own,az⟩
  have W2:=WA.out.below az
  have b02:=B1.out.trans (az.mono B1.out.size)
  have dA:=az.size
  have hB2:=(az.block w.heap.size (by omega)).trans HB.out
  have d0:w2.cell? ⟨w.heap.size,0,none⟩=some (.int .i64 c.e):=ai hB2 0 rfl
  have d1:w2.cell? ⟨w.heap.size,1,none⟩=some (.int .i64 c.n):=ai hB2 1 rfl
  have d2:w2.cell? ⟨w.heap.size,2,none⟩=some c.v:=ai hB2 2 rfl
  rw[oM.out]at d2
  obtain⟨ab,nb,cb,hvb⟩:∃a n k,vb=.slice a n k:=by
   obtain⟨a1,k1,h1,_⟩:=own.is.shape
   exact⟨a1,_,k1,h1⟩
  subst hvb
  have OB:=hide own
  have HB2:=hide hB2
  have qz:=hide b02
  have HW2:=hide W2
  clear WA own az qN hB2 c0 c1 c2 W2 b02
  by_cases hc0:ch=0
  ·subst hc0
   have hfr:aaa c.e c.n c.l=Rl.fr c.c:=by unfold aaa;rw[if_pos KC.out];rfl
   rw[hfr]at OB
   have hfl:(Rl.fr c.c).length≤52236:=Rl.lG KC.out
   obtain⟨F1,G1,h1,h2,hF⟩:=HW2.out
   obtain⟨v,rs,hv,hG⟩:=h2
   have hgl:=Rl.fM hv.log.good
   have p0:w2.cell? ⟨p,0,none⟩=some (.pointer (some ⟨q,0,none⟩)):=ai hv.blk 0 rfl
   have p2:w2.cell? ⟨p,2,none⟩=some v:=ai hv.blk 2 rfl
   have hpw:p<w2.heap.size:=ay hv.blk
   obtain⟨la,ln,lk,hlv⟩:∃a n k,v=.slice a n k:=by
    obtain⟨a1,k1,h1,_⟩:=hv.log.row.row.shape
    exact⟨a1,_,k1,h1⟩
   subst hlv
   obtain⟨ans,dL⟩:∃x,decide (c.e-1=Cm.lastN 0 s.l)=x:=⟨_,rfl⟩
   have TK:Hid (∀W,Below w2.heap.size w2 W→Calls prog 297 #[.slice la ln lk,.agg #[.int .i64 c.e,.int .i64 c.n,.slice ao c.l.length cap]] W fun E w'=>E=.returned (.bool ans)∧Below w2.heap.size w2 w'):=hide fun W hbW=>by
    have:=agf (.slice la ln lk) rs c.e c.n (.slice ao c.l.length cap) W (hv.log.row.row.below hbW) hv.log.xw ⟨_,_,_,rfl⟩ (by rw[hv.log.is];exact hgl.2)
    unfold cK at this
    rw[hv.log.is,dL]at this
    refine this.mono ?_
    rintro E w' ⟨rfl,hb'⟩
    exact⟨rfl,hbW.trans (hb'.mono hbW.size)⟩
   have HA:=hide dL
   have HV:=hide hv
   have H1:=hide h1
   have xS:=hide hF
   have HGG:=hide hG
   clear dL hv h1 hF hG
   go_wp2_with fail
   go_region_held3 (fun w'=>w'.cell? ⟨w.heap.size,0,none⟩=some (.int .i64 c.e)∧w'.cell? ⟨w.heap.size,1,none⟩=some (.int .i64 c.n)∧w'.cell? ⟨w.heap.size,2,none⟩=some (.slice ao c.l.length cap)∧w'.cell? ⟨p,0,none⟩=some (.pointer (some ⟨q,0,none⟩))∧w'.cell? ⟨p,2,none⟩=some (.slice la ln lk)) (first|exact⟨d0,d1,d2,p0,p2⟩|exact⟨e0,e1,e2,g0,g2⟩|go_keep)
    (first
    |(go_at_call 297;refine(TK.out _ ((Below.refl _ _).drew)).mono ?_;rintro E w3 ⟨rfl,aC⟩;have e0:=(aC.cell (p:=⟨w.heap.size,0,none⟩) (show w.heap.size<w2.heap.size by omega)).trans d0;have e1:=(aC.cell (p:=⟨w.heap.size,1,none⟩) (show w.heap.size<w2.heap.size by omega)).trans d1;have e2:=(aC.cell (p:=⟨w.heap.size,2,none⟩) (show w.heap.size<w2.heap.size by omega)).trans d2;have g0:=(aC.cell (p:=⟨p,0,none⟩) hpw).trans p0;have g2:=(aC.cell (p:=⟨p,2,none⟩) hpw).trans p2))
   have fC:=qz.out.trans (aC.mono qz.out.size)
   have bO:=aC.size
   have rZ:Hid (tT p q w3 s.l s.bk (.slice la ln lk) rs):=hide ⟨(aC.block p hpw).trans HV.out.blk,HV.out.log.below aC⟩
   have K3:=hide (H1.out.below aC)
   have O3:=hide (OB.out.below aC)
   have HB3:=hide ((aC.block w.heap.size (by omega)).trans HB2.out)
   have W3:=hide (HW2.out.below aC)
   have B3:=hide fC
   clear HV H1 OB HB2 TK d0 d1 d2 p0 p2 fC aC HW2 qz
   cases ans with
   |false=>
    have e4:Rl.aN s c.c=(15,s):=by
     unfold Rl.aN
     rw[afW.out,if_neg (by decide),if_neg (by intro hx;exact hx KC.out),if_pos (show c.c.e-1≠Cm.lastN 0 s.l from of_decide_eq_false HA.out)]
    have E4:=hide e4
    clear e4 rZ K3 O3
    go_wp2
    go_ret
    exact⟨by rw[E4.out];rfl,by rw[E4.out];exact⟨F,W3.out,Out.of_below B3.out,fun g hg=>.inl hg⟩⟩
   |true=>
    have aq1:=of_decide_eq_true HA.out
    have hgood:Rl.Good 0 (s.l++[c.c]):=(Rl.nU rZ.out.log.good).2 ⟨KC.out,aq1⟩
    have WR:=hide (ahm q F1 w3 s.d (.slice ab nb cb) (Rl.fr c.c) K3.out HS.out (O3.out.bn (Nat.zero_le _)) (fun b hb hf=>by
     have h1:=(O3.out.block b hb).1
     have h2:=HLT.out b (by rw[xS.out];exact .inl hf)
     omega) hfl)
    have e01:=Rl.azq s.d (Rl.fr c.c)
    have e4:Rl.aN s c.c=if (Rl.ext s.d (Rl.fr c.c)).1≠0 then((Rl.ext s.d (Rl.fr c.c)).1,⟨(Rl.ext s.d (Rl.fr c.c)).2,s.l,true⟩)else(0,⟨(Rl.ext s.d (Rl.fr c.c)).2,s.l++[c.c],false⟩):=by
     unfold Rl.aN
     rw[afW.out,if_neg (by decide),if_neg (by intro hx;exact hx KC.out),if_neg (by intro hx;exact hx aq1)]
    have hbk:s.bk=false:=by
     have:=afW.out
     unfold Rl.ask at this
     cases hb:s.bk with
     |false=>rfl
     |true=>rw[hb]at this;cases this
    generalize hwr:Rl.ext s.d (Rl.fr c.c)=y at*
    obtain⟨x,d'⟩:=y
    simp only at e01 e4 WR
    have E4:=hide e4
    have GD:=hide hgood
    have HBK:=hide hbk
    have SZ3:w1.heap.size≤w3.heap.size:=by omega
    clear e4 hgood hwr hfr hbk aq1
    go_wp2_with fail
    refine WR.out.mono ?_
    rintro E w4 ⟨rfl,PS⟩
    obtain⟨F2,k1,k2,k3,k4⟩:=RW.disk (s:=⟨s.d,s.l,s.bk⟩) K3.out ⟨_,rs,rZ.out,rfl⟩ PS
    have T4:=hide (show Out F w3 w4∧∀g,(F2 g∨(g=p∨QB (.slice la ln lk) rs g))→F g∨w3.heap.size≤g from by
     refine⟨k3.mono fun g hg=>.inl (by rw[xS.out];exact .inl hg),?_⟩
     rintro g (hg|hg)
     ·rcases k4 g hg with e|e
      ·exact .inl (by rw[xS.out];exact .inl e)
      ·exact .inr e
     ·exact .inl (by rw[xS.out,HGG.out];exact .inr hg))
    have RW4:Hid (RW p q (fun g=>F2 g∨(g=p∨QB (.slice la ln lk) rs g)) w4 ⟨d',s.l,s.bk⟩):=hide ⟨F2,_,k1,k2,rfl⟩
    have V4:Hid (tT p q w4 s.l s.bk (.slice la ln lk) rs∧Pk q F2 w4 d'):=hide ⟨⟨(k3.block p (ay rZ.out.blk) (fun e=>vD ⟨_,rs,rZ.out,rfl⟩ K3.out p (.inl rfl) e)).trans rZ.out.blk,rZ.out.log.out k3 (aze rZ.out.log K3.out)⟩,k1⟩
    clear PS k1 k2 k3 k4 WR K3 rZ O3
    rcases e01 with rfl|rfl
    ·obtain⟨o4,s4⟩:=T4.out
     have iK:=o4.size
     have hnF:¬F w.heap.size:=fun hf=>by have:=HLT.out _ hf;omega
     have hB4:=(o4.block w.heap.size (by omega) hnF).trans HB3.out
     have x0:w4.cell? ⟨w.heap.size,0,none⟩=some (.int .i64 c.e):=ai hB4 0 rfl
     have x1:w4.cell? ⟨w.heap.size,1,none⟩=some (.int .i64 c.n):=ai hB4 1 rfl
     have x2:w4.cell? ⟨w.heap.size,2,none⟩=some c.v:=ai hB4 2 rfl
     rw[oM.out]at x2
     have i4:bM w4 c.v c.l:=(IOX.out.below B3.out).out o4 HCF.out
     have mq:p<w4.heap.size:=ay V4.out.1.blk
     have y2:w4.cell? ⟨p,2,none⟩=some (.slice la ln lk):=ai V4.out.1.blk 2 rfl
     have X1:Hid (Calls prog 228 #[.agg #[.int .i64 c.e,.int .i64 c.n,.slice ao c.l.length cap]] w4.drew fun E w6=>∃v',E=.returned v'∧∃(vo:Value) (V:World),v'=.agg #[.int .i64 c.e,.int .i64 c.n,vo]∧(∃a n k,vo=.slice a n k)∧w6.cell? ⟨p,2,none⟩=some (.slice la ln lk)∧(w6.cell? ⟨w.heap.size,0,none⟩=some (.int .i64 c.e)∧w6.cell? ⟨w.heap.size,1,none⟩=some (.int .i64 c.n)∧w6.cell? ⟨w.heap.size,2,none⟩=some (.slice ao c.l.length cap))∧w6.alloc (.cells #[.int .i64 c.e,.int .i64 c.n,vo] 273)=V∧(V.cell? ⟨p,2,none⟩=some (.slice la ln lk)∧(V.cell? ⟨w.heap.size,0,none⟩=some (.int .i64 c.e)∧V.cell? ⟨w.heap.size,1,none⟩=some (.int .i64 c.n)∧V.cell? ⟨w.heap.size,2,none⟩=some (.slice ao c.l.length cap)))∧
       Hid (∀ty,∃v2 w2,(Builtin.append_ #[92,92] ty #[.slice la ln lk,.slice (some ⟨w6.heap.size,0,none⟩) 1 1]).run prog V=.ok v2 w2∧(jQ p q F w3 (w2.setCell ⟨p,2,none⟩ v2) ⟨d',s.l++[c.c],s.bk⟩∧w2.cell? ⟨p,2,none⟩=some (.slice la ln lk)∧w2.frozen? ⟨p,2,none⟩=false∧∃a n k,v2=.slice a n k))):=hide (by
      have:=zR c.e c.n c.v c.l w4.drew (i4.drewN 1) FO.out.2.2
      unfold cK at this
      rw[oM.out]at this
      refine this.mono ?_
      rintro E w6 ⟨vo,rfl,eu,eH⟩
      have b46:Below w4.heap.size w4 w6:=(Below.refl w4.heap.size w4).drew.trans eH
      obtain⟨V,hV,V2,v2,w2,hr,q1,q2,q3,F',J1,J2,J3⟩:=aid (c:=⟨c.e,c.n,vo,c.l⟩) V4.out.2 V4.out.1 b46 eu GD.out 92
      have bg:Below w6.heap.size w6 V:=by rw[←hV];exact(Below.refl _ _).alloc (Nat.le_refl _) _
      have b4V:=b46.trans (bg.mono b46.size)
      obtain⟨a1,k1,h1,_⟩:=eu.is.shape
      refine⟨_,rfl,vo,V,rfl,⟨a1,_,k1,h1⟩,(b46.cell (p:=⟨p,2,none⟩) mq).trans y2,⟨(b46.cell (p:=⟨w.heap.size,0,none⟩) (show w.heap.size<w4.heap.size by omega)).trans x0,(b46.cell (p:=⟨w.heap.size,1,none⟩) (show w.heap.size<w4.heap.size by omega)).trans x1,(b46.cell (p:=⟨w.heap.size,2,none⟩) (show w.heap.size<w4.heap.size by omega)).trans x2⟩,hV,⟨V2,(b4V.cell (p:=⟨w.heap.size,0,none⟩) (show w.heap.size<w4.heap.size by omega)).trans x0,(b4V.cell (p:=⟨w.heap.size,1,none⟩) (show w.heap.size<w4.heap.size by omega)).trans x1,(b4V.cell (p:=⟨w.heap.size,2,none⟩) (show w.heap.size<w4.heap.size by omega)).trans x2⟩,hide fun ty=>?_⟩
      obtain⟨V',hV',V2',v2',w2',hr',q1',q2',q3',F'',J1',J2',J3'⟩:=aid (c:=⟨c.e,c.n,vo,c.l⟩) V4.out.2 V4.out.1 b46 eu GD.out ty
      have eV:V'=V:=hV'.symm.trans hV
      subst eV
      refine⟨v2',w2',hr',⟨F'',J1',o4.trans J2' s4,fun g hg=>?_⟩,q1',q2',q3'⟩
      rcases J3' g hg with e|e
      ·exact s4 g e
      ·exact .inr (by omega))
     clear hB4 i4 V4 RW4 T4
     go_wp2_with fail
     go_region_law (first
      |(have ow:=XX;refine dR rfl (.tmp 45) (.tmp 48) 92 rfl (.slice la ln lk) (.slice (some ⟨w6.heap.size,0,none⟩) 1 1) (by first|(simp[Act.eval];done)|(simp[Act.eval,Act.put];done)) (by first|(simp[Act.eval];done)|(simp[Act.eval,Act.put];done)) XX.out ?_;rintro v8 w8 ⟨J,d8,g8,a8,n8,k8,rfl⟩;have J:=hide J)
      |(refine p9 rfl 228 #[.tmp 46] #[273] rfl Tryz.amP #[.agg #[.int .i64 c.e,.int .i64 c.n,.slice ao c.l.length cap]] (by first|(simp[Act.eval];done)|(simp[Act.eval,Act.put];done)) X1.out ?_;rintro v6 w6 ⟨vo,V,rfl,⟨oa,on,ok,rfl⟩,z2,⟨b0,b1,b2⟩,hV,⟨z3,b3,b4,b5⟩,XX⟩))
     all_goals
      have JJ:=hide (jQ.pre B3.out J.out)
      clear J
      go_wp2
      go_ret
      refine⟨by rw[E4.out];rfl,?_⟩
      rw[E4.out]
      have:=JJ.out
      rw[HBK.out]at this
      exact this
    ·have kR:=hide (RW4.out.flag true)
     have p1:=ai V4.out.1.blk 1 rfl
     have f1:=aA V4.out.1.blk 1
     simp only[List.getElem_toArray,List.getElem_cons_zero,List.getElem_cons_succ]at p1
     have JJ:=hide (jQ.pre B3.out (jQ.trans T4.out.1 T4.out.2 kR.out))
     clear kR RW4 T4 V4
     go_wp2
     go_ret
     exact⟨by rw[E4.out];rfl,by rw[E4.out];exact JJ.out⟩
  ·have hne:(ch !=0)=true:=by simp[hc0]
   have e4:Rl.aN s c.c=(ch,s):=by
    unfold Rl.aN
    rw[afW.out,if_neg (by decide),if_pos (by show Rn.chk c.e c.n c.l≠0;rw[KC.out];exact hc0)]
    show(Rn.chk c.e c.n c.l,s)=(ch,s)
    rw[KC.out]
   have E4:=hide e4
   clear e4
   go_wp2
   go_ret
   exact⟨by rw[E4.out];rfl,by rw[E4.out];exact⟨F,HW2.out,Out.of_below qz.out,fun g hg=>.inl hg⟩⟩
theorem gu.ay1 {base:Nat}{w w':World}{rs:List Cw}(h:gu base w rs)(hb:bH 273 w w'):gu base w' rs:=fun c hc=>(h c hc).lu hb (by decide)
theorem aa1 (vl:Value)(r:List Cw)(w:World)(h:eD w vl r)(hone:∀c∈r,c.v.oneCell'=true)(hl:r.length≤1048576):
  Calls prog 227 #[vl] w fun e w'=>∃v,e=.returned v∧bD 273 w.heap.size w' v r∧Below w.heap.size w w':=by
 have q:∀(w:World) (a:Option Addr) (n c n' c':Nat),(binOp .eql 92 (.slice a n c) (.slice none n' c')).run prog w=.ok (.bool a.isNone) w:=fun w a n c n' c'=>Lib.run_eql_slice_nil w _ _ a n c n' c' underlying92
 by_cases hn:vl=.slice none 0 0
 ·subst hn
  have:r=[]:=by
   rcases h with⟨_,h⟩|⟨ad,cap,h,_⟩
   ·exact h
   ·simp at h
  subst this
  clear h hl
  go_enter func227,ntmps227
  go_wp2
  go_ret
  exact⟨_,rfl,bD.nil _ _ _,Below.refl _ _⟩
 ·obtain⟨ad,cap,rfl⟩:∃ad cap,vl=.slice (some ad) r.length cap:=by
   rcases h with⟨h,_⟩|⟨ad,cap,h,_⟩
   ·exact absurd h hn
   ·exact⟨ad,cap,h⟩
  clear hn
  obtain⟨w1,hw1,aV,aj,aX⟩:=kE 273 w #[] 0 [] rfl rfl (by simp[maxLen])
  have h1:=h.below aj
  go_enter func227,ntmps227
  go_wp2_with (at_builtin;refine nT rfl (.tmp 5) (.tmp 6) 92 rfl 273 w.heap.size underlying92 Tryz.ahN _ [] rfl aX _ r rfl h1 hone (by simp;omega) (by omega) ?_)
  intro v2 w2 aW az _
  go_wp2
  go_ret
  exact⟨_,rfl,by simpa using aW,aj.trans az⟩
structure aaF (w wr:World) (g m cap:Nat) (rest:List Cw) (k:Nat) (rk:List Cw):Prop where
 row:bD 273 w.heap.size wr (.slice (some ⟨g,0,none⟩) m cap) rk
 len:rk.length=m
 left:rk.drop k=rest.drop k
 iH:gu w.heap.size wr (rk.take k)
 is:aD rk=aD rest
 ap:qE (rk.take k)
 aI:Below w.heap.size w wr
theorem aaF.next {w wr w2 w3:World}{g m cap:Nat}{rest rk:List Cw}{k:Nat}(h:aaF w wr g m cap rest k rk){c:Cw}(hc:rest[k]? =some c)(hk:k<m){v':Value}(ho:aT 71 wr.heap.size w2 v' c.l)(hb:Below wr.heap.size wr w2)
  (hr:bD 273 w.heap.size w3 (.slice (some ⟨g,0,none⟩) m cap) (rk.set k ⟨c.e,c.n,v',c.l⟩)) (hg:w2.grownBy w3 (some g)):aaF w w3 g m cap rest (k+1) (rk.set k ⟨c.e,c.n,v',c.l⟩):=by
 have hlen:=h.len
 have xV:rk[k]? =some c:=by
  have e1:(rk.drop k)[0]? =(rest.drop k)[0]? :=by rw[h.left]
  rw[List.getElem?_drop,List.getElem?_drop]at e1
  simpa using e1.trans (by simpa using hc)
 have htk:(rk.set k ⟨c.e,c.n,v',c.l⟩).take (k+1)=rk.take k++[⟨c.e,c.n,v',c.l⟩]:=by
  rw[List.take_succ_eq_append_getElem (by rw[List.length_set];omega),List.take_set_of_le (Nat.le_refl _)]
  simp
 have hrow2:bD 273 w.heap.size w2 (.slice (some ⟨g,0,none⟩) m cap) rk:=h.row.below hb
 have kt:bH 273 w2 w3:=bH.sN hrow2 hg
 refine⟨hr,by rw[List.length_set];exact hlen,?_,?_,?_,?_,?_⟩
 ·rw[List.drop_set_of_lt (by omega),←List.drop_drop,h.left,List.drop_drop]
 ·rw[htk]
  exact(h.iH.below hb|>.ay1 kt).snoc (c:=⟨c.e,c.n,v',c.l⟩) ((ho.lu kt (by decide)).bn h.aI.size)
 ·rw[←h.is]
  unfold aD
  rw[List.map_set]
  apply List.ext_getElem?
  intro i
  rw[List.getElem?_set]
  by_cases hik:k=i
  ·subst hik
   rw[if_pos rfl,if_pos (by rw[List.length_map];omega),List.getElem?_map,xV]
   rfl
  ·rw[if_neg hik]
 ·rw[htk]
  refine aal (N:=wr.heap.size) h.ap (fun d hd b hb=>((h.iH d hd).block b hb).2) fun b hb=>(aT.block ho b hb).1
 ·have b2:=h.aI.trans (hb.mono h.aI.size)
  refine b2.grown hg b2.size fun i hi=>?_
  have:=(World.ownsRow.lt h.row g rfl).1
  simp only[Option.some.injEq]at hi
  omega
theorem aub (p q:Nat)(w:World)(l:List Cm.Cv)(bk:Bool)(v:Value)(rs:List Cw)(hv:tT p q w l bk v rs):
  Calls prog 169 #[.pointer (some ⟨p,0,none⟩)] w fun E w'=>∃v' rs',E=.returned v'∧Rq w.heap.size w' l v' rs'∧qE rs'∧Below w.heap.size w w':=by
 have HM:=hide (nR p q w _ _ hv.blk)
 have c2:w.cell? ⟨p,2,none⟩=some v:=ai hv.blk 2 rfl
 have HIS:=hide hv.log.is
 have HGD:=hide hv.log.good
 have hl:=hv.log.xw
 by_cases h0:rs.length=0
 ·have hr:rs=[]:=List.eq_nil_of_length_eq_zero h0
  subst hr
  have oQ:=hide (aa1 v [] w hv.log.row.row (fun c hc=>by simp at hc) (by simp))
  obtain⟨ao,cap,dz,_,_⟩:=hv.log.row.row.shape
  subst dz
  clear hv h0
  go_enter func169,ntmps169
  go_wp2_with fail
  refine HM.out.mono ?_
  rintro E w1 ⟨rfl,rfl⟩
  go_wp2_with fail
  refine oQ.out.mono ?_
  rintro E w1 ⟨v1,rfl,aX,aj⟩
  obtain⟨a1,k1,hv1,_,_⟩:=aX.row.shape
  simp only[List.length_nil]at hv1
  have G:=hide (show Rq w.heap.size w1 l v1 []∧qE []∧Below w.heap.size w w1 from⟨⟨aX,fun c hc=>by simp at hc,HIS.out,HGD.out⟩,fun i j c d _ hc=>by simp at hc,aj⟩)
  subst hv1
  clear aX aj oQ HM
  go_wp2
  go_loopw [16] (fun iv wr=>iv=.int .i64 0∧wr=w1) (fun _ _=>0)
  case atStart=>exact⟨rfl,rfl⟩
  case round=>
   obtain⟨rfl,rfl⟩:=hrel
   go_wp2
   go_ret
   first
   |exact⟨_,[],rfl,G.out⟩
   |exact⟨_,rfl,[],G.out⟩
 ·obtain⟨m,hm⟩:∃m,rs.length=m:=⟨_,rfl⟩
  obtain⟨b0,off,cap0,dz,hcap,hcm,_,_⟩:=hv.log.row.row.full (by omega)
  have aog:Hid (∀W,Below w.heap.size w W→∀c∈rs,bM W c.v c.l∧c.l.length*40≤140737488351232):=hide fun W hb c hc=>⟨((hv.log.iH c hc).is).below hb,(auD (arz hv.log.good hv.log.is c hc)).2.1⟩
  have oQ:Hid (Calls prog 227 #[v] w fun e w'=>∃g cap,e=.returned (.slice (some ⟨g,0,none⟩) m cap)∧m≤cap∧aaF w w' g m cap rs 0 rs):=hide (by
   refine(aa1 v rs w hv.log.row.row (fun c hc=>(hv.log.iH c hc).is.one) hl).mono ?_
   rintro E w' ⟨v,rfl,own,aI⟩
   rcases own.2 with⟨_,h0⟩|⟨g,cap,cur,hvv,_,_,hc,_⟩
   ·omega
   ·refine⟨g,cap,by rw[hvv,hm],by omega,by rw[←hm,←hvv];exact own,hm,rfl,fun c hc=>by simp at hc,rfl,fun i j c d _ hc=>by simp at hc,aI⟩)
  have FIN:Hid (∀W g cap rk,aaF w W g m cap rs m rk→Rq w.heap.size W l (.slice (some ⟨g,0,none⟩) m cap) rk∧qE rk∧Below w.heap.size w W):=hide fun W g cap rk hF=>by
   have ht:rk.take m=rk:=List.take_of_length_le (by rw[hF.len];omega)
   have h1:=hF.iH
   have h2:=hF.ap
   rw[ht]at h1 h2
   exact⟨⟨hF.row,h1,by rw[hF.is];exact HIS.out,HGD.out⟩,h2,hF.aI⟩
  have HRL:=hide hm
  rw[dz,hm]at oQ
  rw[dz,hm]at c2
  rw[hm]at hl h0
  clear hv dz hcm hm hcap
  go_enter func169,ntmps169
  go_wp2_with fail
  refine HM.out.mono ?_
  rintro E w1 ⟨rfl,rfl⟩
  go_wp2_with fail
  refine oQ.out.mono ?_
  rintro E w1 ⟨g,cap,rfl,hcp,F0⟩
  have F0:=hide F0
  clear oQ HM
  go_wp2
  go_loopw [16] (fun iv wr=>∃(k:Nat) (rk:List Cw),k≤m∧iv=.int .i64 k∧Hid (aaF w wr g m cap rs k rk)) (fun iv _=>m-(intOf iv).toNat)
  case atStart=>exact⟨0,rs,by omega,rfl,F0⟩
  case round=>
   obtain⟨k,rk,hk,rfl,kD⟩:=hrel
   by_cases hlt:k<m
   ·obtain⟨c,hc⟩:∃c,rs[k]? =some c:=⟨rs[k]'(by rw[HRL.out];omega),by rw[List.getElem?_eq_getElem]⟩
    have hcm:=List.mem_of_getElem? hc
    have xV:rk[k]? =some c:=by
     have e1:(rk.drop k)[0]? =(rs.drop k)[0]? :=by rw[kD.out.left]
     rw[List.getElem?_drop,List.getElem?_drop]at e1
     simpa using e1.trans (by simpa using hc)
    obtain⟨⟨d0,d1,d2⟩,_⟩:=pR kD.out.row kD.out.len k c xV
    obtain⟨wa,hwa,aqJ,sza,ru,bA,x0,x1,x2⟩:=eY wr 273 (.int .i64 0) (.int .i64 0) (.slice none 0 0) (.int .i64 c.e) (.int .i64 c.n) c.v
    obtain⟨jP,hlo⟩:=aog.out wr kD.out.aI c hcm
    have CP:Hid (Calls prog 228 #[.agg #[.int .i64 c.e,.int .i64 c.n,c.v]] wa fun E w2=>∃v2,E=.returned (.agg #[.int .i64 c.e,.int .i64 c.n,v2])∧(∃a n z,v2=.slice a n z)∧(∃W,((w2.setCell ⟨g,k*3,none⟩ (.int .i64 c.e)).setCell ⟨g,k*3+1,none⟩ (.int .i64 c.n)).setCell ⟨g,k*3+2,none⟩ v2=W∧∃rk2,aaF w W g m cap rs (k+1) rk2)∧(w2.cell? ⟨g,k*3,none⟩=some (.int .i64 c.e)∧w2.cell? ⟨g,k*3+1,none⟩=some (.int .i64 c.n)∧w2.cell? ⟨g,k*3+2,none⟩=some c.v)∧(w2.frozen? ⟨g,k*3,none⟩=false∧w2.frozen? ⟨g,k*3+1,none⟩=false∧w2.frozen? ⟨g,k*3+2,none⟩=false)):=hide (by
     refine(zR c.e c.n c.v c.l wa (jP.below ru) hlo).mono ?_
     rintro E w2 ⟨v2,rfl,aW,az⟩
     have b2:Below wr.heap.size wr w2:=ru.trans (az.mono ru.size)
     have hrow2:bD 273 w.heap.size w2 (.slice (some ⟨g,0,none⟩) m cap) rk:=kD.out.row.below b2
     obtain⟨W,hW,oW,gW⟩:=aaP hrow2 kD.out.len k hlt ⟨c.e,c.n,v2,c.l⟩
     obtain⟨y,z⟩:=pR hrow2 kD.out.len k c xV
     exact⟨v2,rfl,(by obtain⟨xa,xc,hx,_⟩:=aW.is.shape;exact⟨_,_,_,hx⟩),⟨W,hW,_,kD.out.next hc hlt (aW.bn ru.size) b2 oW gW⟩,y,z⟩)
    obtain⟨ca,cc,hcv,_,_⟩:=jP.shape
    rw[hcv]at d2 hwa aqJ x2 CP
    have hlt':(k:Int)<m:=by omega
    clear kD jP hlo xV ru bA hc hcm
    go_wp2_with fail
    refine CP.out.mono ?_
    rintro E w2 ⟨v2,rfl,⟨a2,n2,z2,rfl⟩,⟨W,hW,rk2,F2⟩,⟨y0,y1,y2⟩,⟨f0,f1,f2⟩⟩
    have F2:=hide F2
    clear CP
    go_wp2
    go_roundw
    case rel=>exact⟨k+1,rk2,by omega,by go_num,F2⟩
    case measure=>simp[intOf];omega
   ·obtain rfl:k=m:=by omega
    have hlt':¬(k:Int)<k:=by omega
    have G:=hide (FIN.out _ g cap rk kD.out)
    clear kD
    go_wp2
    go_ret
    first
    |exact⟨_,rk,rfl,G.out⟩
    |exact⟨_,rfl,rk,G.out⟩
end Go.Proofs.YtlmkaljjocflmaaGreatDoor
