/- Texts of one layer, one behind the other. -/
import Derived.Test.YtpifdeoepppadaaGreatDoorG10
import Derived.Test.YtpifdeoepppadaaGreatDoorG9
import Derived.Test.YtpifdeoepppadaaGreatDoorH8
import Derived.Test.YtpifdeoepppadaaGreatDoorG1
import Derived.Test.YtpifdeoepppadaaGreatDoorG7
import Derived.Test.YtpifdeoepppadaaGreatDoorH6
import Derived.Deep.RegionHeld3
import Derived.Test.YtpifdeoepppadaaGreatDoorH15
set_option maxRecDepth 100000
set_option maxHeartbeats 8000000
namespace Go.Proofs.YtpifdeoepppadaaGreatDoor
open Go.RowKit
set_option linter.unusedVariables false
theorem apq (e n:Int)(v:Value)(l:List Bm.Ov)(w:World)(h:dm w v l)(hf:fG l)(hl:l.length≤140737488355328):
  Calls Tryz.prog 189 #[cZ e n v] w fun E w'=>∃vb,E=.returned (.tuple #[vb,.int .i64 (Cm.aJ e n l)])∧Own .u8 5 w.heap.size w' vb (Cm.out e n l)∧Below w.heap.size w w':=by
 unfold cZ
 obtain⟨ch,hch⟩:∃c,Cm.aJ e n l=c:=⟨_,rfl⟩
 obtain⟨ou,hou⟩:∃c,Cm.out e n l=c:=⟨_,rfl⟩
 rw[hch,hou]
 have HC:=hide hch
 have HO:=hide hou
 clear hch hou
 obtain⟨w1,hw1,bH,ax,hB⟩:=ay w #[.int .i64 e,.int .i64 n,v] 32
 have c0:=ai hB 0 rfl
 have c1:=ai hB 1 rfl
 have c2:=ai hB 2 rfl
 have h1:=h.below ax
 obtain⟨ao,cap,rfl,_,_⟩:=h.shape
 have BB:=hide hB
 clear hB
 go_enter Tryz.func189,Tryz.ntmps189
 go_wp2_with fail
 refine(wW e n _ l _ h1 hf hl).mono ?_
 rintro E w2 ⟨rfl,aB⟩
 rw[HC.out]
 have fA:=aB.size
 have hB2:=(aB.block _ (by omega)).trans BB.out
 have d0:=ai hB2 0 rfl
 have d1:=ai hB2 1 rfl
 have d2:=ai hB2 2 rfl
 have h2:=h1.below aB
 have aY:=ax.trans (aB.mono (by omega))
 have B2:=hide hB2
 clear BB c0 c1 c2 hB2 ax aB h1
 by_cases hc:ch=0
 ·subst hc
  have hc:=HC.out
  obtain⟨g1,g2,g3,g4,g5⟩:=Cm.bu hc
  have hO:=HO.out
  rw[Cm.lC hc,Cm.iL]at hO
  replace HO:=hide hO
  clear hO
  have hs1:=Cm.iQ g2
  have hs2:=Cm.iQ g4
  clear hc
  go_wp2_with fail
  refine(iG _ [] e _ (Is.nil _ _) (by simp) (by omega) (by omega)).mono ?_
  rintro E w3 ⟨vb,rfl,df,aH⟩
  have fZ:=aH.size
  have hB3:=(aH.block _ (by omega)).trans B2.out
  have f1:=ai hB3 1 rfl
  have h3:=h2.below aH
  have bP:=aY.trans (aH.mono (by omega))
  have B3:=hide hB3
  rw[List.nil_append]at df
  clear B2 d0 d1 d2 hB3 aH h2 aY
  go_wp2_with fail
  refine(iG _ _ n _ df.is (by omega) (by omega) (by omega)).mono ?_
  rintro E w4 ⟨vc,rfl,bM,aS⟩
  have pK:=aS.size
  have hB4:=(aS.block _ (by omega)).trans B3.out
  have q2:=ai hB4 2 rfl
  have h4:=h3.below aS
  have dF:=bP.trans (aS.mono (by omega))
  clear B3 f1 hB4 aS h3 bP df
  go_wp2_with fail
  refine(aqY _ _ _ l _ bM.is (by rw[List.length_append];omega) h4 hf hl).mono ?_
  rintro E w5 ⟨vd,rfl,dI,aX⟩
  rw[g5]
  rw[Bm.ajc g5,List.append_assoc,HO.out]at dI
  have azU:=dI.bz (base':=w.heap.size) (by omega)
  have qx:=dF.trans (aX.mono (by omega))
  clear dI bM h4 dF aX
  go_wp2
  refine bodyPost_ret (v:=.tuple #[vd,.int .i64 0]) (by simp[results,Tryz.results189,go_sem]) rfl ?_
  exact⟨_,rfl,azU,qx⟩
 ·have hne:(ch==0)=false:=by simpa using hc
  have hO:=HO.out
  rw[Cm.rP (by rw[HC.out];exact hc)]at hO
  subst hO
  clear hc
  go_wp2
  refine bodyPost_ret (v:=.tuple #[.slice none 0 0,.int .i64 ch]) (by simp[results,Tryz.results189,go_sem]) rfl ?_
  exact⟨_,rfl,Own.nil _ _ _ _,aY⟩
theorem abu (vl:Value)(r:List Cw)(w:World)(h:dZ w vl r)(hone:∀c∈r,c.v.oneCell'=true)(hl:r.length≤1048576):
  Calls Tryz.prog 144 #[vl] w fun e w'=>∃v,e=.returned v∧bG 32 w.heap.size w' v r∧Below w.heap.size w w':=by
 have q:∀(w:World) (a:Option Addr) (n c n' c':Nat),(binOp .eql 43 (.slice a n c) (.slice none n' c')).run Tryz.prog w=.ok (.bool a.isNone) w:=fun w a n c n' c'=>Lib.run_eql_slice_nil w _ _ a n c n' c' Tryz.underlying43
 by_cases hn:vl=.slice none 0 0
 ·subst hn
  have:r=[]:=by
   rcases h with⟨_,h⟩|⟨ad,cap,h,_⟩
   ·exact h
   ·simp at h
  subst this
  clear h hl
  go_enter Tryz.func144,Tryz.ntmps144
  go_wp2
  go_ret
  exact⟨_,rfl,bG.nil _ _ _,Below.refl _ _⟩
 ·obtain⟨ad,cap,rfl⟩:∃ad cap,vl=.slice (some ad) r.length cap:=by
   rcases h with⟨h,_⟩|⟨ad,cap,h,_⟩
   ·exact absurd h hn
   ·exact⟨ad,cap,h⟩
  clear hn
  obtain⟨w1,hw1,bH,ax,bJ⟩:=gN 32 w #[] 0 [] rfl rfl (by simp[maxLen])
  have h1:=h.below ax
  go_enter Tryz.func144,Tryz.ntmps144
  go_wp2_with (at_builtin;refine jd rfl (.tmp 5) (.tmp 6) 43 rfl 32 w.heap.size Tryz.underlying43 Tryz.uB _ [] rfl bJ _ r rfl h1 hone (by simp;omega) (by omega) ?_)
  intro v2 w2 bq aB _
  go_wp2
  go_ret
  exact⟨_,rfl,by simpa using bq,ax.trans aB⟩
theorem am8 (e f:Int)(v:Value)(rs:List Cw)(w:World)(h:fJ w v rs)(hf:fF rs)(hl:rs.length≤140737488355328):
  Calls Tryz.prog 86 #[cZ e f v] w fun E w'=>E=.returned (.int .i64 (Orp.aJ ⟨e,f,aD rs⟩))∧Below w.heap.size w w':=by
 unfold cZ
 obtain⟨w1,hw1,bH,ax,hB⟩:=ay w #[.int .i64 e,.int .i64 f,v] 45
 have c0:w1.cell? ⟨w.heap.size,0,none⟩=some (.int .i64 e):=ai hB 0 rfl
 have c1:w1.cell? ⟨w.heap.size,1,none⟩=some (.int .i64 f):=ai hB 1 rfl
 have c2:w1.cell? ⟨w.heap.size,2,none⟩=some v:=ai hB 2 rfl
 obtain⟨ao,cap,hvl,hcap,hcm⟩:=h.1.shape
 have B1:=hide ax
 by_cases ha:e<1∨1048576<e∨f<0∨rs.length=0
 ·rw[Orp.auo (s:=⟨e,f,aD rs⟩) (by rw[show(Orp.Se.mk e f (aD rs)).cs=aD rs from rfl,ji];exact ha)]
  subst hvl
  clear h hf hB ax
  by_cases q1:e<1
  ·clear ha
   go_enter Tryz.func86,Tryz.ntmps86
   go_wp2
   go_ret
   exact⟨rfl,B1.out⟩
  by_cases q2:1048576<e
  ·clear ha
   go_enter Tryz.func86,Tryz.ntmps86
   go_wp2
   go_ret
   exact⟨rfl,B1.out⟩
  by_cases q3:f<0
  ·clear ha
   go_enter Tryz.func86,Tryz.ntmps86
   go_wp2
   go_ret
   exact⟨rfl,B1.out⟩
  have q4:rs.length=0:=by omega
  rw[q4]at hw1 c2⊢
  clear ha hl hcap
  go_enter Tryz.func86,Tryz.ntmps86
  go_wp2
  go_ret
  exact⟨rfl,B1.out⟩
 have h12:¬((Orp.Se.mk e f (aD rs)).e<1∨1048576<(Orp.Se.mk e f (aD rs)).e∨(Orp.Se.mk e f (aD rs)).f<0∨(Orp.Se.mk e f (aD rs)).cs.length=0):=by
  rw[show(Orp.Se.mk e f (aD rs)).cs=aD rs from rfl,ji];exact ha
 have q1:¬e<1:=by omega
 have q2:¬1048576<e:=by omega
 have q3:¬f<0:=by omega
 have q4:((rs.length:Int)==0)=false:=by rw[beq_eq_false_iff_ne];omega
 have X:=hide (rR 1 f v rs w1 (h.below ax) hf hl)
 unfold flv at X
 have HB:=hide (fun k=>Orp.au1 (s:=⟨e,f,aD rs⟩) h12 k)
 have HO:=hide (fun k q=>Orp.auf (s:=⟨e,f,aD rs⟩) h12 k q)
 have HK:=hide (fun k q=>Orp.iD (s:=⟨e,f,aD rs⟩) h12 k q)
 obtain⟨z,hz⟩:∃z,Orp.aJ ⟨e,f,aD rs⟩=z:=⟨_,rfl⟩
 rw[hz]at HB HO HK⊢
 obtain⟨n,hn⟩:∃n,rs.length=n+1:=⟨rs.length-1,by omega⟩
 obtain⟨b,off,cap',hv,_,_,hb,hcell⟩:=h.1.full (by omega)
 obtain⟨c,hc⟩:∃c,rs[n]? =some c:=⟨rs[n]'(by omega),List.getElem?_eq_getElem _⟩
 have hla:=aqj hc hn.symm 1
 have d0:=(ax.cell (p:=⟨b,off+n*3,none⟩) hb).trans (hcell n c hc).1
 have hb1:b<w1.heap.size:=by omega
 simp only at HB HO HK
 rw[hla]at HO HK
 obtain⟨fl,hfl⟩:∃g,Cm.fol 1 f 0 (aD rs)=g:=⟨_,rfl⟩
 rw[hfl]at X HB HO HK
 clear hz hfl
 obtain⟨fe,fp⟩:=fl
 simp only at X HB HO HK
 rw[hvl]at hv
 simp only[Value.slice.injEq,true_and]at hv
 obtain⟨hao,hcp⟩:=hv
 subst hao hcp
 have g2:IntKind.i64.wrap ((rs.length:Int)-1)=(n:Int):=by rw[jU _ (by omega) (by omega)];omega
 have g3:(n:Int)<(rs.length:Int):=by omega
 have g4:(0:Int)≤(n:Int):=by omega
 rw[hvl]at X
 subst hvl
 have HBB:=hide hB
 clear h hf hcell hc hn hla h12 ha hB
 go_enter Tryz.func86,Tryz.ntmps86
 go_wp2_with fail
 refine X.out.mono ?_
 rintro E w2 ⟨rfl,aB⟩
 obtain⟨w3,hw3,aoG,fZ,aH,hF,a0,a1⟩:=adN w2 98 (.int .i64 0) (.int .i64 0) (.int .i64 fe) (.int .i64 fp)
 have ng:Below w1.heap.size w1 w3:=aB.trans (aH.mono aB.size)
 have B3:=hide (B1.out.trans (ng.mono (by omega)))
 have hB3:=(ng.block w.heap.size (by omega)).trans HBB.out
 have k0:=ai hB3 0 rfl
 have k2:=ai hB3 2 rfl
 simp only[List.getElem_toArray,List.getElem_cons_zero,List.getElem_cons_succ]at k0 k2
 have d3:=(ng.cell (p:=⟨b,off+n*3,none⟩) hb1).trans d0
 clear X aB aH hF hB3 HBB ng
 by_cases hfe:fe=0
 ·have hb:(fe !=0)=false:=by simp[hfe]
  by_cases h3:e≤c.e
  ·have HE:=hide (HO.out hfe h3)
   clear HO HK HB hfe
   go_wp2_with fail
   go_quiet (fail)
   go_wp2
   go_ret
   exact⟨by rw[HE.out];rfl,below_drewN B3.out _⟩
  ·have HE:=hide (HK.out hfe (by omega))
   clear HO HK HB hfe
   go_wp2_with fail
   go_quiet (fail)
   go_wp2
   go_ret
   exact⟨by rw[HE.out];rfl,below_drewN B3.out _⟩
 ·have hb:(fe !=0)=true:=by simp[hfe]
  have HE:=hide (HB.out hfe)
  clear HO HK HB hfe
  go_wp2
  go_ret
  exact⟨by rw[HE.out];rfl,B3.out⟩
def ay0 (w:World) (bs:List Int) (E:Ending) (w':World):Prop:=
 ∃(x:Sw) (n:Nat) (g:Bool),E=.returned (.tuple #[.agg #[.int .i64 x.e,.int .i64 x.f,x.v],.int .i64 n,.bool g])∧Hid (gL w.heap.size w' x.v x.rs∧In64 x.e∧In64 x.f∧Orp.Rd bs x.s n g∧Below w.heap.size w w')
theorem zR {w w':World}{bs:List Int}(hb:Below w.heap.size w w')(hn:Orp.No bs):ay0 w bs (.returned (.tuple #[.agg #[.int .i64 0,.int .i64 0,.slice none 0 0],.int .i64 0,.bool false])) w':=
 ⟨⟨0,0,.slice none 0 0,[]⟩,0,false,rfl,hide ⟨gL.nil _ _,by simp[In64],by simp[In64],.inr ⟨rfl,hn⟩,hb⟩⟩
structure MdO (w wr:World) (bs:List Int) (S x y m a:Nat) (v:Value) (cs:List Cw):Prop where
 blk:wr.heap[S]? =some (.cells #[.int .i64 x,.int .i64 y,v] 45 (0,0))
 r0:wr.heap[w.heap.size]? =some (.cells #[.int .i64 0,.int .i64 0,.slice none 0 0] 45 (0,0))
 lt:w.heap.size<S
 sh:gL (S+1) wr v cs
 aF:Below w.heap.size w wr
 hh:Fm.dh (Vm.enc x++(Vm.enc y++Vm.enc m))<+:bs
 hl:Wl.aW (aD cs)<+:bs.drop (Fm.dh (Vm.enc x++(Vm.enc y++Vm.enc m))).length
 hc:∀c∈aD cs,Cm.aJ c.e c.n c.l=0
 at':a=(Fm.dh (Vm.enc x++(Vm.enc y++Vm.enc m))).length+(Wl.aW (aD cs)).length
 len:cs.length≤m
 num:x≤1048576∧y≤1048576∧m≤1048576
theorem agQ {bs:List Int}{x y m a:Nat}{cs:List Cw}{r:List Int}{n:Nat}{e k:Int}{l:List Bm.Ov}{v':Value}
  (hl:Wl.aW (aD cs)<+:bs.drop (Fm.dh (Vm.enc x++(Vm.enc y++Vm.enc m))).length) (hc:∀c∈aD cs,Cm.aJ c.e c.n c.l=0) (ha:a=(Fm.dh (Vm.enc x++(Vm.enc y++Vm.enc m))).length+(Wl.aW (aD cs)).length)
  (hr:Fm.Rd (bs.drop a) r n 0) (hd:Cm.gH r e k l 0):Cm.aJ e k l=0∧1≤n∧a+n≤bs.length∧Wl.aW (aD (cs++[⟨e,k,v',l⟩]))<+:bs.drop (Fm.dh (Vm.enc x++(Vm.enc y++Vm.enc m))).length∧(∀c∈aD (cs++[⟨e,k,v',l⟩]),Cm.aJ c.e c.n c.l=0)∧
   a+n=(Fm.dh (Vm.enc x++(Vm.enc y++Vm.enc m))).length+(Wl.aW (aD (cs++[⟨e,k,v',l⟩]))).length:=by
 rcases hr with⟨_,_,hn,hp⟩|⟨h1,_⟩
 ·rcases hd with⟨_,hk,he⟩|⟨h1,_⟩
  ·have hcv:aD (cs++[⟨e,k,v',l⟩])=aD cs++[⟨e,k,l⟩]:=by simp[aD,Cw.c]
   have hfr:Wl.fr ⟨e,k,l⟩=Fm.dh r:=by unfold Wl.fr Wl.rec;rw[he]
   have hln:(Fm.dh r).length=n:=by rw[Fm.jF,hn]
   have h1:=Fm.qM r
   have h2:=hp.length_le
   rw[List.length_drop]at h2
   refine⟨hk,by omega,by omega,?_,fun c hcc=>?_,?_⟩
   ·rw[hcv,Wl.jC,Wl.lU,hfr,Bm.bB,List.drop_drop,←ha]
    exact⟨hl,hp⟩
   ·rw[hcv]at hcc
    rcases List.mem_append.1 hcc with hcc|hcc
    ·exact hc c hcc
    ·rw[List.mem_singleton.1 hcc];exact hk
   ·rw[hcv,Wl.jC,Wl.lU,hfr,List.length_append,hln]
    omega
  ·simp at h1
 ·simp at h1
theorem rH {S:Nat}{t:TypeId}{a b c:Value}(W:World)(h:W.heap[S]? =some (.cells #[a,b,c] t (0,0))):(W.setCell ⟨S,0,none⟩ a=W∧W.setCell ⟨S,1,none⟩ b=W∧W.setCell ⟨S,2,none⟩ c=W)∧(W.frozen? ⟨S,0,none⟩=false∧W.frozen? ⟨S,1,none⟩=false∧W.frozen? ⟨S,2,none⟩=false)∧(W.cell? ⟨S,0,none⟩=some a∧W.cell? ⟨S,1,none⟩=some b∧W.cell? ⟨S,2,none⟩=some c):=
 ⟨⟨aI h (j:=0) rfl,aI h (j:=1) rfl,aI h (j:=2) rfl⟩,⟨az h 0,az h 1,az h 2⟩,ai h 0 rfl,ai h 1 rfl,ai h 2 rfl⟩
theorem aii {V:World}{R:Nat}{t:TypeId}{cs:Array Value}(hR:V.heap[R]? =some (.cells cs t (0,0)))(k:Nat)(c:Value)(hk:k<cs.size):
  ∃V',V.setCell ⟨R,k,none⟩ c=V'∧V'.heap[R]? =some (.cells (cs.setIfInBounds k c) t (0,0))∧V.grownBy V' (some R)∧V.cell? ⟨R,k,none⟩=some cs[k]∧V.frozen? ⟨R,k,none⟩=false:=by
 obtain⟨V',h1,h2,h3,h4⟩:=asI hR k c
 exact⟨V',h1,h2,h3,ai hR k (Array.getElem?_eq_getElem hk),h4⟩
structure HI (bs:List Int) (w wr:World) (k x y m a:Nat):Prop where
 res:wr.heap[w.heap.size]? =some (.cells #[.int .i64 0,.int .i64 0,.slice none 0 0] 45 (0,0))
 num:wr.heap[w.heap.size+1]? =some (.cells #[.int .i64 x,.int .i64 y,.int .i64 m] 239 (0,0))
 aF:Below w.heap.size w wr
 at':a=(if 1≤k then Vm.sz x else 0)+(if 2≤k then Vm.sz y else 0)+(if 3≤k then Vm.sz m else 0)
 h1:1≤k→x≤1048576∧Vm.enc x<+:bs
 h2:2≤k→y≤1048576∧Vm.enc y<+:bs.drop (Vm.sz x)
 h3:3≤k→m≤1048576∧Vm.enc m<+:bs.drop (Vm.sz x+Vm.sz y)
theorem HI.le {bs:List Int}{w wr:World}{k x y m a:Nat}(h:HI bs w wr k x y m a):a≤bs.length:=by
 have e:=h.at'
 by_cases q3:3≤k
 ·have p3:=(h.h3 q3).2.length_le
  have p2:=(h.h2 (by omega)).2.length_le
  have p1:=(h.h1 (by omega)).2.length_le
  rw[if_pos (by omega),if_pos (by omega),if_pos q3]at e
  rw[List.length_drop]at p2 p3
  have e1:=(show(Vm.enc x).length=Vm.sz x from rfl);have e2:=(show(Vm.enc y).length=Vm.sz y from rfl);have e3:=(show(Vm.enc m).length=Vm.sz m from rfl)
  omega
 ·rw[if_neg q3]at e
  by_cases q2:2≤k
  ·have p2:=(h.h2 q2).2.length_le
   have p1:=(h.h1 (by omega)).2.length_le
   rw[if_pos (by omega),if_pos q2]at e
   rw[List.length_drop]at p2
   have e1:=(show(Vm.enc x).length=Vm.sz x from rfl);have e2:=(show(Vm.enc y).length=Vm.sz y from rfl)
   omega
  ·rw[if_neg q2]at e
   by_cases q1:1≤k
   ·have p1:=(h.h1 q1).2.length_le
    rw[if_pos q1]at e
    have e1:=(show(Vm.enc x).length=Vm.sz x from rfl)
    omega
   ·rw[if_neg q1]at e
    omega
theorem HI.base {bs:List Int}{w wr V:World}{k x y m a:Nat}{cs:Array Value}(h:HI bs w wr k x y m a)(hV:V.heap[w.heap.size+1]? =some (.cells cs 239 (0,0)))(gV:wr.grownBy V (some (w.heap.size+1))):
  V.heap[w.heap.size]? =some (.cells #[.int .i64 0,.int .i64 0,.slice none 0 0] 45 (0,0))∧Below w.heap.size w V:=
 ⟨(gV.block _ (aA h.res) (by simp)).trans h.res,aK h.aF gV (by omega) h.aF.size⟩
theorem HI.azT {bs:List Int}{w wr V:World}{x y m a z:Nat}(h:HI bs w wr 0 x y m a)(hz:z≤1048576)(hp:Vm.enc z<+:bs.drop a)(hV:V.heap[w.heap.size+1]? =some (.cells ((#[.int .i64 x,.int .i64 y,.int .i64 m]:Array Value).setIfInBounds 0 (.int .i64 z)) 239 (0,0)))(gV:wr.grownBy V (some (w.heap.size+1))):HI bs w V 1 z y m (a+Vm.sz z):=by
 have e:a=0:=by simpa using h.at'
 subst e
 exact⟨(h.base hV gV).1,hV,(h.base hV gV).2,by simp,fun _=>⟨hz,by simpa using hp⟩,fun q=>by omega,fun q=>by omega⟩
theorem HI.az4 {bs:List Int}{w wr V:World}{x y m a z:Nat}(h:HI bs w wr 1 x y m a)(hz:z≤1048576)(hp:Vm.enc z<+:bs.drop a)(hV:V.heap[w.heap.size+1]? =some (.cells ((#[.int .i64 x,.int .i64 y,.int .i64 m]:Array Value).setIfInBounds 1 (.int .i64 z)) 239 (0,0)))(gV:wr.grownBy V (some (w.heap.size+1))):HI bs w V 2 x z m (a+Vm.sz z):=by
 have e:a=Vm.sz x:=by simpa using h.at'
 subst e
 exact⟨(h.base hV gV).1,hV,(h.base hV gV).2,by simp,fun _=>h.h1 (by omega),fun _=>⟨hz,hp⟩,fun q=>by omega⟩
theorem HI.azL {bs:List Int}{w wr V:World}{x y m a z:Nat}(h:HI bs w wr 2 x y m a)(hz:z≤1048576)(hp:Vm.enc z<+:bs.drop a)(hV:V.heap[w.heap.size+1]? =some (.cells ((#[.int .i64 x,.int .i64 y,.int .i64 m]:Array Value).setIfInBounds 2 (.int .i64 z)) 239 (0,0)))(gV:wr.grownBy V (some (w.heap.size+1))):HI bs w V 3 x y z (a+Vm.sz z):=by
 have e:a=Vm.sz x+Vm.sz y:=by simpa using h.at'
 subst e
 exact⟨(h.base hV gV).1,hV,(h.base hV gV).2,by simp,fun _=>h.h1 (by omega),fun _=>h.h2 (by omega),fun _=>⟨hz,hp⟩⟩
theorem HI.no0 {bs:List Int}{w wr:World}{x y m a:Nat}(h:HI bs w wr 0 x y m a)(hn:∀u:Nat,u≤1048576→¬Vm.enc u<+:bs.drop a):Orp.NoH bs:=by
 have e:a=0:=by simpa using h.at'
 subst e
 exact Orp.aAD (by simpa using hn)
theorem HI.no1 {bs:List Int}{w wr:World}{x y m a:Nat}(h:HI bs w wr 1 x y m a)(hn:∀u:Nat,u≤1048576→¬Vm.enc u<+:bs.drop a):Orp.NoH bs:=by
 have e:a=Vm.sz x:=by simpa using h.at'
 subst e
 exact Orp.aAQ (h.h1 (by omega)).2 hn
theorem HI.no2 {bs:List Int}{w wr:World}{x y m a:Nat}(h:HI bs w wr 2 x y m a)(hn:∀u:Nat,u≤1048576→¬Vm.enc u<+:bs.drop a):Orp.NoH bs:=by
 have e:a=Vm.sz x+Vm.sz y:=by simpa using h.at'
 subst e
 exact Orp.aAg (h.h1 (by omega)).2 (h.h2 (by omega)).2 hn
def HdR (bs:List Int) (x y m:Nat) (g:Bool):Prop:=(g=true∧(x≤1048576∧y≤1048576∧m≤1048576)∧Vm.enc x++(Vm.enc y++Vm.enc m)=bs)∨(g=false∧Orp.NoH bs)
theorem apL (vb:Value)(bs:List Int)(w:World)(hb:Is .u8 w vb bs)(hl:bs.length≤140737488355328):
  Calls Tryz.prog 194 #[vb] w fun E w'=>∃(x y m:Nat) (g:Bool),E=.returned (.tuple #[.agg #[.int .i64 x,.int .i64 y,.slice none 0 0],.int .i64 m,.bool g])∧Hid (HdR bs x y m g)∧Below w.heap.size w w':=by
 obtain⟨w1,hw1,bH,ax,jc⟩:=ay w #[.int .i64 0,.int .i64 0,.slice none 0 0] 45
 obtain⟨w2,hw2,fA,aB,zl⟩:=ay w1 #[.int .i64 0,.int .i64 0,.int .i64 0] 239
 have hR2:=(aB.block _ (aA jc)).trans jc
 rw[bH]at zl
 have aY:=ax.trans (aB.mono (by omega))
 have D0:Hid (HI bs w w2 0 0 0 0 0):=hide ⟨hR2,zl,aY,by simp,fun q=>by omega,fun q=>by omega,fun q=>by omega⟩
 have HB:=hide hb
 have hlen:=hb.adj Tryz.jY
 have ZERO:Hid (∀W:World,W.heap[w.heap.size]? =some (.cells #[.int .i64 0,.int .i64 0,.slice none 0 0] 45 (0,0))→_):=hide fun W h=>rH W h
 obtain⟨ao,cap,hvb,_,_⟩:=hb.shape
 rw[hvb]at HB
 subst hvb
 clear jc hR2 zl ax aB aY hb
 go_enter Tryz.func194,Tryz.ntmps194
 go_wp2
 go_loopw [6,11] (fun ee kk wr=>∃(k a x y m:Nat),k≤3∧kk=.int .i64 k∧ee=.int .i64 a∧Hid (HI bs w wr k x y m a)) (fun _ kk _=>4-(intOf kk).toNat)
 case atStart=>exact⟨0,0,0,0,0,by omega,rfl,rfl,D0⟩
 case round=>
  obtain⟨k,a,x,y,m,hk,rfl,rfl,D⟩:=hrel
  have hal:=D.out.le
  have jD:=aA D.out.res
  clear D0
  rcases(show k=0∨k=1∨k=2∨k=3 by omega)with rfl|rfl|rfl|rfl
  ·obtain⟨vs,hsl,dC⟩:=(HB.out.below D.out.aF).dP Tryz.jY Tryz.lH a hal
   obtain⟨u,i,g,hS⟩:=ig (bs.drop a) ((1048576:Nat):Int)
   have SM:=hide (dH vs (bs.drop a) 1048576 u i g wr dC (by rw[List.length_drop];omega) (by omega) (by omega) hS)
   have ST:=hide (iB (most:=1048576) (by omega) hS)
   clear dC hS
   go_wp2_with fail
   refine SM.out.mono ?_
   rintro E w4 ⟨rfl,rfl⟩
   clear hsl SM
   rcases ST.out with⟨z,rfl,rfl,rfl,hz,hp⟩|⟨rfl,rfl,rfl,hn⟩
   ·have uo:=Vm.gK (x:=z) (by omega)
    have hwr:=aN ((a:Int)+(Vm.sz z:Int)) (by omega) (by omega)
    obtain⟨V,hV,bV,gV,cz,fz⟩:=aii D.out.num 0 (.int .i64 z) (by simp)
    have DN:Hid (HI bs w V 1 z y m (a+Vm.sz z)):=hide (D.out.azT hz hp bV gV)
    clear bV gV hp D ST
    go_wp2
    go_roundw
    case rel=>exact⟨1,a+Vm.sz z,z,y,m,by omega,rfl,by go_num,DN⟩
    case measure=>simp[intOf]
   ·have HN:=hide (D.out.no0 hn)
    obtain⟨⟨s0,s1,s2⟩,⟨f0,f1,f2⟩,z0,z1,z2⟩:=ZERO.out wr D.out.res
    have BB:=hide D.out.aF
    clear hn D ST
    go_wp2
    refine bodyPost_ret (v:=.tuple #[.agg #[.int .i64 0,.int .i64 0,.slice none 0 0],.int .i64 0,.bool false]) (by simp[results,Tryz.results194,go_sem,z0,z1,z2]) rfl ?_
    exact⟨0,0,0,false,rfl,hide (.inr ⟨rfl,HN.out⟩),BB.out⟩
  ·obtain⟨vs,hsl,dC⟩:=(HB.out.below D.out.aF).dP Tryz.jY Tryz.lH a hal
   obtain⟨u,i,g,hS⟩:=ig (bs.drop a) ((1048576:Nat):Int)
   have SM:=hide (dH vs (bs.drop a) 1048576 u i g wr dC (by rw[List.length_drop];omega) (by omega) (by omega) hS)
   have ST:=hide (iB (most:=1048576) (by omega) hS)
   clear dC hS
   go_wp2_with fail
   refine SM.out.mono ?_
   rintro E w4 ⟨rfl,rfl⟩
   clear hsl SM
   rcases ST.out with⟨z,rfl,rfl,rfl,hz,hp⟩|⟨rfl,rfl,rfl,hn⟩
   ·have uo:=Vm.gK (x:=z) (by omega)
    have hwr:=aN ((a:Int)+(Vm.sz z:Int)) (by omega) (by omega)
    obtain⟨V,hV,bV,gV,cz,fz⟩:=aii D.out.num 1 (.int .i64 z) (by simp)
    have DN:Hid (HI bs w V 2 x z m (a+Vm.sz z)):=hide (D.out.az4 hz hp bV gV)
    clear bV gV hp D ST
    go_wp2
    go_roundw
    case rel=>exact⟨2,a+Vm.sz z,x,z,m,by omega,rfl,by go_num,DN⟩
    case measure=>simp[intOf]
   ·have HN:=hide (D.out.no1 hn)
    obtain⟨⟨s0,s1,s2⟩,⟨f0,f1,f2⟩,z0,z1,z2⟩:=ZERO.out wr D.out.res
    have BB:=hide D.out.aF
    clear hn D ST
    go_wp2
    refine bodyPost_ret (v:=.tuple #[.agg #[.int .i64 0,.int .i64 0,.slice none 0 0],.int .i64 0,.bool false]) (by simp[results,Tryz.results194,go_sem,z0,z1,z2]) rfl ?_
    exact⟨0,0,0,false,rfl,hide (.inr ⟨rfl,HN.out⟩),BB.out⟩
  ·obtain⟨vs,hsl,dC⟩:=(HB.out.below D.out.aF).dP Tryz.jY Tryz.lH a hal
   obtain⟨u,i,g,hS⟩:=ig (bs.drop a) ((1048576:Nat):Int)
   have SM:=hide (dH vs (bs.drop a) 1048576 u i g wr dC (by rw[List.length_drop];omega) (by omega) (by omega) hS)
   have ST:=hide (iB (most:=1048576) (by omega) hS)
   clear dC hS
   go_wp2_with fail
   refine SM.out.mono ?_
   rintro E w4 ⟨rfl,rfl⟩
   clear hsl SM
   rcases ST.out with⟨z,rfl,rfl,rfl,hz,hp⟩|⟨rfl,rfl,rfl,hn⟩
   ·have uo:=Vm.gK (x:=z) (by omega)
    have hwr:=aN ((a:Int)+(Vm.sz z:Int)) (by omega) (by omega)
    obtain⟨V,hV,bV,gV,cz,fz⟩:=aii D.out.num 2 (.int .i64 z) (by simp)
    have DN:Hid (HI bs w V 3 x y z (a+Vm.sz z)):=hide (D.out.azL hz hp bV gV)
    clear bV gV hp D ST
    go_wp2
    go_roundw
    case rel=>exact⟨3,a+Vm.sz z,x,y,z,by omega,rfl,by go_num,DN⟩
    case measure=>simp[intOf]
   ·have HN:=hide (D.out.no2 hn)
    obtain⟨⟨s0,s1,s2⟩,⟨f0,f1,f2⟩,z0,z1,z2⟩:=ZERO.out wr D.out.res
    have BB:=hide D.out.aF
    clear hn D ST
    go_wp2
    refine bodyPost_ret (v:=.tuple #[.agg #[.int .i64 0,.int .i64 0,.slice none 0 0],.int .i64 0,.bool false]) (by simp[results,Tryz.results194,go_sem,z0,z1,z2]) rfl ?_
    exact⟨0,0,0,false,rfl,hide (.inr ⟨rfl,HN.out⟩),BB.out⟩
  ·have e:a=Vm.sz x+Vm.sz y+Vm.sz m:=by simpa using D.out.at'
   by_cases hae:a=bs.length
   ·have hab:((a:Int) !=(bs.length:Int))=false:=by simp[hae]
    have HH:Hid (HdR bs x y m true):=hide (.inl ⟨rfl,⟨(D.out.h1 (by omega)).1,(D.out.h2 (by omega)).1,(D.out.h3 (by omega)).1⟩,Orp.avD (D.out.h1 (by omega)).2 (D.out.h2 (by omega)).2 (D.out.h3 (by omega)).2 (by omega)⟩)
    obtain⟨Z,hZ,bZ,gZ,⟨a0,a1,a2⟩,⟨f0,f1,f2⟩,z0,z1,z2⟩:=dN D.out.res (.int .i64 x) (.int .i64 y) (.slice none 0 0)
    have n0:wr.cell? ⟨w.heap.size+1,0,none⟩=some (.int .i64 x):=ai D.out.num 0 rfl
    have n1:wr.cell? ⟨w.heap.size+1,1,none⟩=some (.int .i64 y):=ai D.out.num 1 rfl
    have n2:wr.cell? ⟨w.heap.size+1,2,none⟩=some (.int .i64 m):=ai D.out.num 2 rfl
    have m2:Z.cell? ⟨w.heap.size+1,2,none⟩=some (.int .i64 m):=ai ((gZ.block _ (aA D.out.num) (by simp)).trans D.out.num) 2 rfl
    have BZ:=hide (aK D.out.aF gZ (Nat.le_refl _) D.out.aF.size)
    clear D ZERO bZ gZ hae e hlen
    go_wp2
    go_region
    go_wp2
    refine bodyPost_ret (v:=.tuple #[.agg #[.int .i64 x,.int .i64 y,.slice none 0 0],.int .i64 m,.bool true]) (by simp[results,Tryz.results194,go_sem,z0,z1,z2]) rfl ?_
    exact⟨x,y,m,true,rfl,HH,below_drewN BZ.out 1⟩
   ·have hab:((a:Int) !=(bs.length:Int))=true:=by simp;omega
    have HN:Hid (Orp.NoH bs):=hide (Orp.aAW (D.out.h1 (by omega)).2 (D.out.h2 (by omega)).2 (D.out.h3 (by omega)).2 (by omega))
    obtain⟨⟨s0,s1,s2⟩,⟨f0,f1,f2⟩,z0,z1,z2⟩:=ZERO.out wr D.out.res
    have BB:=hide D.out.aF
    clear D ZERO e
    go_wp2
    refine bodyPost_ret (v:=.tuple #[.agg #[.int .i64 0,.int .i64 0,.slice none 0 0],.int .i64 0,.bool false]) (by simp[results,Tryz.results194,go_sem,z0,z1,z2]) rfl ?_
    exact⟨0,0,0,false,rfl,hide (.inr ⟨rfl,HN.out⟩),BB.out⟩
def CmO (w:World) (bs:List Int) (E:Ending) (w':World):Prop:=
 ∃(c:Cw) (n:Nat) (g:Bool),E=.returned (.tuple #[.agg #[.int .i64 c.e,.int .i64 c.n,c.v],.int .i64 n,.bool g])∧Hid (aV 106 w.heap.size w' c.v c.l∧Below w.heap.size w w'∧
  ((g=true∧∃r,Fm.Rd bs r n 0∧Cm.gH r c.e c.n c.l 0)∨(g=false∧((∃r n e,Fm.Rd bs r n e∧e≠0)∨∃r n e k l g,Fm.Rd bs r n 0∧Cm.gH r e k l g∧g≠0))))
theorem aom (vb:Value)(bs:List Int)(w:World)(hb:Is .u8 w vb bs)(hl:bs.length≤140737488355328):Calls Tryz.prog 195 #[vb] w (CmO w bs):=by
 obtain⟨w1,hw1,bH,ax,jc⟩:=ay w #[.int .i64 0,.int .i64 0,.slice none 0 0] 32
 have F1:=hide (oN vb bs w1 (hb.below ax) (by omega))
 obtain⟨ao,cap,hvb,_,_⟩:=hb.shape
 rw[hvb]at F1
 subst hvb
 have B1:=hide ax
 have R1:=hide jc
 clear hb jc ax
 go_enter Tryz.func195,Tryz.ntmps195
 go_wp2_with fail
 refine F1.out.mono ?_
 rintro E w2 ⟨vh,hs,n0,e0,rfl,vW,aB,HRd⟩
 have hR2:=(aB.block w.heap.size (by omega)).trans R1.out
 have B2:=hide (B1.out.trans (aB.mono B1.out.size))
 obtain⟨ah,ch,hvh,_,_⟩:=vW.is.shape
 clear F1
 by_cases he0:e0=0
 ·subst he0
  have CD:=hide (ahK vh hs w2 vW.is (by
   rcases HRd.out with⟨_,h1,_⟩|⟨h1,_⟩
   ·omega
   ·simp at h1))
  rw[hvh]at CD
  subst hvh
  clear vW
  go_wp2_with fail
  refine CD.out.mono ?_
  rintro E w3 ⟨ce,cn,g,cv,cl,rfl,df,HCR,aH⟩
  unfold cZ
  obtain⟨ca,ck,hcv,_,_⟩:=df.is.shape
  have j6:=(aH.block _ (aA hR2)).trans hR2
  have B3:=B2.out.trans (aH.mono B2.out.size)
  obtain⟨Z,hZ,bZ,gZ,⟨a0,a1,a2⟩,⟨f0,f1,f2⟩,z0,z1,z2⟩:=dN j6 (.int .i64 ce) (.int .i64 cn) cv
  have BZ:=hide (aK B3 gZ (Nat.le_refl _) B3.size)
  have OZ:=hide ((df.qz gZ (aA hR2)).bz (base':=w.heap.size) B2.out.size)
  have CR:=hide HCR
  have ZB:=hide bZ
  obtain⟨⟨s0,s1,s2⟩,⟨g0,g1,g2⟩,_⟩:=rH Z bZ
  rw[hcv]at hZ z2 OZ ZB s2
  subst hcv
  clear CD aH df HCR j6 B3 gZ bZ aB hR2
  by_cases hg:g=0
  ·subst hg
   clear ZB
   go_wp2
   refine bodyPost_ret (v:=.tuple #[.agg #[.int .i64 ce,.int .i64 cn,.slice ca cl.length ck],.int .i64 n0,.bool true]) (by simp[results,Tryz.results195,go_sem,z0,z1,z2]) rfl ?_
   exact⟨⟨ce,cn,.slice ca cl.length ck,cl⟩,n0,true,rfl,hide ⟨OZ.out,BZ.out,.inl ⟨rfl,hs,HRd.out,CR.out⟩⟩⟩
  ·have hgb:(g !=0)=true:=by simp[hg]
   have NO:=hide hg
   obtain⟨Y,hY,bY,gY,_,_,y0,y1,y2⟩:=dN ZB.out (.int .i64 0) (.int .i64 0) (.slice none 0 0)
   have BY:=hide (aK BZ.out gY (Nat.le_refl _) BZ.out.size)
   clear ZB gY bY hg
   go_wp2
   refine bodyPost_ret (v:=.tuple #[.agg #[.int .i64 0,.int .i64 0,.slice none 0 0],.int .i64 0,.bool false]) (by simp[results,Tryz.results195,go_sem,y0,y1,y2]) rfl ?_
   exact⟨⟨0,0,.slice none 0 0,[]⟩,0,false,rfl,hide ⟨aV.nil _ _ _,BY.out,.inr ⟨rfl,.inr ⟨hs,n0,ce,cn,cl,g,HRd.out,CR.out,NO.out⟩⟩⟩⟩
 ·have heb:(e0 !=0)=true:=by simp[he0]
  obtain⟨⟨s0,s1,s2⟩,⟨f0,f1,f2⟩,z0,z1,z2⟩:=rH w2 hR2
  have NO:=hide he0
  subst hvh
  clear vW aB hR2 he0
  go_wp2
  refine bodyPost_ret (v:=.tuple #[.agg #[.int .i64 0,.int .i64 0,.slice none 0 0],.int .i64 0,.bool false]) (by simp[results,Tryz.results195,go_sem,z0,z1,z2]) rfl ?_
  exact⟨⟨0,0,.slice none 0 0,[]⟩,0,false,rfl,hide ⟨aV.nil _ _ _,B2.out,.inr ⟨rfl,.inl ⟨hs,n0,e0,HRd.out,NO.out⟩⟩⟩⟩
theorem Tryz.ayy:(Tryz.prog.info? 45).map (fun i=>(i.zero,i.size,i.bytes))=some (some (.agg #[.int .i64 0,.int .i64 0,.slice none 0 0]),3,40):=by kernel_rfl
def SwB (x:Sw) (g:Nat):Prop:=x.v.ownBlock=some g∨∃c∈x.rs,c.v.ownBlock=some g
structure jZ (b:Nat) (w:World) (v:Value) (l:List Sw):Prop where
 r:bG 45 b w v (swc l)
 o:∀x∈l,gL b w x.v x.rs
 i:∀x∈l,In64 x.e∧In64 x.f
 ap:∀(i j:Nat) (x y:Sw),i<j→l[i]? =some x→l[j]? =some y→∀g,SwB x g→¬SwB y g
theorem jZ.nil (b:Nat)(w:World):jZ b w (.slice none 0 0) []:=⟨bG.nil _ _ _,fun x hx=>by simp at hx,fun x hx=>by simp at hx,fun i j x y _ h=>by simp at h⟩
theorem jZ.below {b:Nat}{w w':World}{v:Value}{l:List Sw}(h:jZ b w v l)(hb:Below w.heap.size w w'):jZ b w' v l:=⟨h.r.below hb,fun x hx=>(h.o x hx).below hb,h.i,h.ap⟩
theorem gL.isC {b:Nat}{w:World}{v:Value}{cs:List Cw}(h:gL b w v cs):fJ w v cs:=⟨h.c.row,fun c hc=>⟨(h.o c hc).is,h.i c hc⟩⟩
theorem jZ.is {b:Nat}{w:World}{v:Value}{l:List Sw}(h:jZ b w v l):aoD w v l:=⟨h.r.row,fun x hx=>⟨(h.o x hx).isC,h.i x hx⟩⟩
theorem gL.lt {b:Nat}{w:World}{x:Sw}(h:gL b w x.v x.rs):∀g,SwB x g→b≤g∧g<w.heap.size:=by
 rintro g (hg|⟨c,hc,hg⟩)
 ·exact World.ownsRow.lt h.c g hg
 ·exact World.ownsRow.lt (h.o c hc) g hg
theorem gL.gq {b e':Nat}{w w':World}{v:Value}{cs:List Cw}(h:gL b w v cs)(k:bK e' w w')(n1:32≠e')(n2:106≠e'):gL b w' v cs:=⟨sM h.c k n1,fun c hc=>sM (h.o c hc) k n2,h.i,h.ap,h.f⟩
theorem apn (l:List Sw)(x:Sw):swc (l++[x])=swc l++[x.c]:=by simp[swc]
theorem wI (l:List Sw)(x:Sw):jS (l++[x])=jS l++[x.s]:=by simp[jS]
theorem jZ.azR {b:Nat}{w w6:World}{v:Value}{l:List Sw}(h:jZ b w v l)(hbw:b≤w.heap.size)(hb:Below w.heap.size w w6)(x:Sw)(hx:gL w.heap.size w6 x.v x.rs)(hi:In64 x.e∧In64 x.f)(hl:l.length≤1000000000):
  ∃V,w6.alloc (.cells #[.int .i64 x.e,.int .i64 x.f,x.v] 45)=V∧Below w6.heap.size w6 V∧V.heap.size=w6.heap.size+1∧∀ty,∃v2 w2,(Builtin.append_ #[144,144] ty #[v,.slice (some ⟨w6.heap.size,0,none⟩) 1 1]).run Tryz.prog V=.ok v2 w2∧jZ b w2 v2 (l++[x])∧(Below b w6 w2∧V.grownBy w2 v.ownBlock)∧∃a n k,v2=.slice a n k:=by
 obtain⟨V,hV,fE,bn,iE⟩:=gN 45 w6 #[.int .i64 x.e,.int .i64 x.f,x.v] 1 [x.c] rfl rfl (by simp[maxLen])
 have tC:=hb.size
 have qb:Below w.heap.size w V:=hb.trans (bn.mono tC)
 refine⟨V,hV,bn,fE,fun ty=>?_⟩
 have hV':=h.below qb
 have hxV:=hx.below bn
 have hone:x.v.oneCell'=true:=by
  obtain⟨a,k,e,_⟩:=hx.c.row.shape
  rw[e];rfl
 obtain⟨v2,w2,hr,bq,gJ,at2⟩:=jg (P:=Tryz.prog) (w:=V) 144 ty 45 b Tryz.underlying144 Tryz.ayy v (swc l) hV'.r _ [x.c] iE.row (fun d hd=>by rw[List.mem_singleton.1 hd];exact hone) (by rw[ai9];simp;omega) (by omega)
 have kp:=bK.pI hV'.r gJ
 refine⟨v2,w2,hr,⟨by rw[apn];exact bq,fun y hy=>?_,fun y hy=>?_,fun i j y z hij hi hj g hg hz=>?_⟩,⟨(bn.mono (by omega)).grown gJ (by omega) fun g hg=>(World.ownsRow.lt hV'.r g hg).1,gJ⟩,?_⟩
 ·rcases List.mem_append.1 hy with hy|hy
  ·exact(hV'.o y hy).gq kp (by decide) (by decide)
  ·rw[List.mem_singleton.1 hy]
   exact(hxV.bz hbw).gq kp (by decide) (by decide)
 ·rcases List.mem_append.1 hy with hy|hy
  ·exact h.i y hy
  ·rw[List.mem_singleton.1 hy];exact hi
 ·have hjl:=(List.getElem?_eq_some_iff.1 hj).1
  rw[List.length_append,List.length_singleton]at hjl
  have hi':i<l.length:=by omega
  rw[List.getElem?_append_left hi']at hi
  by_cases ahH:j<l.length
  ·rw[List.getElem?_append_left ahH]at hj
   exact h.ap i j y z hij hi hj g hg hz
  ·rw[List.getElem?_append_right (by omega),show j-l.length=0 by omega,List.getElem?_cons_zero]at hj
   cases hj
   have h1:=((h.o y (List.mem_of_getElem? hi)).lt g hg).2
   have h2:=(hx.lt g hz).1
   omega
 ·obtain⟨a1,k1,h1,_⟩:=bq.row.shape
  exact⟨a1,_,k1,h1⟩
def ScO (w:World) (bs:List Int) (E:Ending) (w':World):Prop:=
 ∃(v:Value) (l:List Sw) (n:Nat),E=.returned (.tuple #[v,.int .i64 n])∧Hid (jZ w.heap.size w' v l∧asT l∧n=(Orp.secs (jS l)).length∧Orp.Sn 0 bs (jS l)∧Below w.heap.size w w')
structure yR (w wr:World) (bs:List Int) (a:Nat) (v:Value) (l:List Sw):Prop where
 own:jZ w.heap.size wr v l
 fit:asT l
 ris:Orp.Ris 0 (jS l)
 pre:Orp.secs (jS l)<+:bs
 at':a=(Orp.secs (jS l)).length
 aF:Below w.heap.size w wr
theorem yR.len {w wr:World}{bs:List Int}{a:Nat}{v:Value}{l:List Sw}(h:yR w wr bs a v l):l.length≤a:=by
 have:=Orp.agF (jS l)
 rw[au3]at this
 rw[h.at'];exact this
theorem yR.no {w wr:World}{bs:List Int}{a:Nat}{v:Value}{l:List Sw}(h:yR w wr bs a v l)(hn:Orp.No (bs.drop a)):Orp.Sn 0 bs (jS l):=⟨h.ris,h.pre,fun t ht hp=>by
 rw[←h.at']at hp
 exact hn t ht.1 hp⟩
theorem yR.low {w wr:World}{bs:List Int}{a:Nat}{v:Value}{l:List Sw}(h:yR w wr bs a v l){x:Sw}{n:Nat}(hr:Orp.Rd (bs.drop a) x.s n true)(hle:x.e≤Orp.pX 0 (jS l)):Orp.Sn 0 bs (jS l):=⟨h.ris,h.pre,fun t ht hp=>by
 rw[←h.at']at hp
 rcases hr with⟨_,h1,h2,_⟩|⟨h1,_⟩
 ·have e:=Orp.adZ ht.1 h1 hp h2
  have:=ht.2.1
  rw[e]at this
  have:Orp.pX 0 (jS l)<x.e:=this
  omega
 ·simp at h1⟩
theorem yR.next {w wr wx:World}{bs:List Int}{a:Nat}{v v2:Value}{l:List Sw}(h:yR w wr bs a v l){x:Sw}{n:Nat}(hr:Orp.Rd (bs.drop a) x.s n true)(hgt:Orp.pX 0 (jS l)<x.e)(hf:fF x.rs)(ho:jZ w.heap.size wx v2 (l++[x]))(hb:Below w.heap.size w wx):yR w wx bs (a+n) v2 (l++[x])∧1≤n:=by
 rcases hr with⟨_,h1,h2,h3⟩|⟨h1,_⟩
 ·have hz:=Orp.bu h1
  have hln:x.rs.length≤1048576:=by
   have:=hz.2.2.2.2.2.1
   rw[show x.s.cs=aD x.rs from rfl,ji]at this
   exact this
  have hp:=Orp.zI x.s
  refine⟨⟨ho,fun y hy=>?_,?_,?_,?_,hb⟩,by omega⟩
  ·rcases List.mem_append.1 hy with hy|hy
   ·exact h.fit y hy
   ·rw[List.mem_singleton.1 hy];exact⟨hf,by omega⟩
  ·rw[wI,Orp.ade]
   exact⟨h.ris,h1,hgt,trivial⟩
  ·rw[wI,Orp.qO,Orp.abo,Bm.bB]
   rw[h.at']at h2
   exact⟨h.pre,h2⟩
  ·rw[wI,Orp.qO,Orp.abo,List.length_append,←h.at',h3]
 ·simp at h1
end Go.Proofs.YtpifdeoepppadaaGreatDoor
