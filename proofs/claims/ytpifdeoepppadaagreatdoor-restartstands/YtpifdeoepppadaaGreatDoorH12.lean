/- Texts of one layer, one behind the other. -/
import Derived.Test.YtpifdeoepppadaaGreatDoorG6
import Derived.Test.YtpifdeoepppadaaGreatDoorProg
import Derived.Shelf.RegionOpen
import Derived.Test.YtpifdeoepppadaaGreatDoorG8
import Derived.Test.YtpifdeoepppadaaGreatDoorG11
import Derived.Test.YtpifdeoepppadaaGreatDoorH8
import Derived.Test.YtpifdeoepppadaaGreatDoorG10
import Derived.BigQuiet
import Derived.Deep.RegionLaw
import Derived.Deep.RegionHeld3
import Derived.Test.YtpifdeoepppadaaGreatDoorG7
import Derived.Test.YtpifdeoepppadaaGreatDoorH6
set_option maxRecDepth 100000
set_option maxHeartbeats 8000000
namespace Go.Proofs.YtpifdeoepppadaaGreatDoor
open Go.RowKit
set_option linter.unusedVariables false
def Run (B:Nat) (Q:Int→World→Prop):List Value→World→Prop
 |[],w=>Q 0 w
 |v::vs,w=>∃f first cap,v=.func (.func f) first cap∧(∀args w,(callFunc f args).run Tryz.prog w=.ok (.enter f args) w)∧Calls Tryz.prog f (first++cap) w fun E w'=>∃e,E=.returned (.int .i64 e)∧w'.heap[B]? =w.heap[B]?∧((e≠0∧Q e w')∨(e=0∧Run B Q vs w'))
theorem Run.cons {B:Nat}{Q:Int→World→Prop}{f:FuncId}{first cap xs:Array Value}{vs:List Value}{w:World}(eg:∀args w,(callFunc f args).run Tryz.prog w=.ok (.enter f args) w)(ha:first++cap=xs)(hc:Calls Tryz.prog f xs w fun E w'=>∃e,E=.returned (.int .i64 e)∧w'.heap[B]? =w.heap[B]?∧((e≠0∧Q e w')∨(e=0∧Run B Q vs w'))):Run B Q (.func (.func f) first cap::vs) w:=
 ⟨f,first,cap,rfl,eg,by rw[ha];exact hc⟩
theorem oz (B n:Nat)(fs:List Value)(w:World)(Q:Int→World→Prop)(hn:fs.length=n)(hl:n≤100)(hB:w.heap[B]? =some (.cells fs.toArray 134 (0,0)))(h:Run B Q fs w):
  Calls Tryz.prog 38 #[.slice (some ⟨B,0,none⟩) n n] w fun E w'=>∃e,E=.returned (.int .i64 e)∧Q e w':=by
 have H:=hide (And.intro hB h)
 have HN:=hide hn
 clear hB h hn
 go_enter Tryz.func38,Tryz.ntmps38
 go_wp2
 go_loopw [8] (fun iv wr=>∃(k:Nat),iv=.int .i64 k∧k≤n∧Hid (wr.heap[B]? =some (.cells fs.toArray 134 (0,0))∧Run B Q (fs.drop k) wr)) (fun iv _=>n-(intOf iv).toNat)
 case atStart=>exact⟨0,rfl,Nat.zero_le _,hide (by rw[List.drop_zero];exact H.out)⟩
 case round=>
  obtain⟨k,rfl,hk,HH⟩:=hrel
  by_cases hlt:k<n
  ·obtain⟨hb,hr⟩:=HH.out
   have hkl:k<fs.length:=by rw[HN.out];exact hlt
   rw[List.drop_eq_getElem_cons hkl]at hr
   obtain⟨f,first,cap,hv,eg,hc⟩:=hr
   have cell:wr.cell? ⟨B,k,none⟩=some (.func (.func f) first cap):=ai hb k (by simp[List.getElem?_eq_getElem hkl,hv])
   have HC:=hide hc
   have HB:=hide hb
   have hlt':(k:Int)<n:=by omega
   clear hc hb hv HH
   go_wp2_with fail
   refine HC.out.mono ?_
   rintro E w' ⟨e,rfl,hb',hd⟩
   rcases hd with⟨he,hq⟩|⟨rfl,hq⟩
   ·have HQ:=hide hq
    clear hq hb' HC
    have he':(e==0)=false:=by simpa using he
    go_wp2
    go_ret
    exact⟨e,rfl,HQ.out⟩
   ·have HQ:=hide (And.intro (hb'.trans HB.out) hq)
    clear hq hb' HC
    go_wp2
    go_roundw
    case rel=>exact⟨k+1,by simp,by omega,HQ⟩
    case measure=>simp[intOf];omega
  ·obtain rfl:k=n:=by omega
   have hr:=HH.out.2
   rw[List.drop_eq_nil_of_le (by rw[HN.out];exact Nat.le_refl _)]at hr
   have HR:Hid (Q 0 wr):=hide hr
   clear hr HH
   have hlt':¬(k:Int)<k:=by omega
   go_wp2
   go_ret
   exact⟨0,rfl,HR.out⟩
theorem mq (p q:Nat)(w:World)(hc:w.cell? ⟨p,0,none⟩=some (.pointer (some ⟨q,0,none⟩))):
  Calls Tryz.prog 74 #[.pointer (some ⟨p,0,none⟩)] w fun E w'=>E=.returned (.bool true)∧w=w':=by
 go_enter Tryz.func74,Tryz.ntmps74
 go_wp2
 go_ret
 exact⟨rfl,rfl⟩
theorem nL (v:Value)(w:World)(h:v=.pointer none∨∃p,v=.pointer (some ⟨p,0,none⟩)∧w.cell? ⟨p,0,none⟩=some (.pointer none)):
  Calls Tryz.prog 74 #[v] w fun E w'=>E=.returned (.bool false)∧w=w':=by
 rcases h with rfl|⟨p,rfl,hc⟩
 ·go_enter Tryz.func74,Tryz.ntmps74
  go_wp2
  go_ret
  exact⟨rfl,rfl⟩
 ·go_enter Tryz.func74,Tryz.ntmps74
  go_wp2
  go_ret
  exact⟨rfl,rfl⟩
theorem aln (p q:Nat)(F:Nat→Prop)(w:World)(st:Dm.Ds)(off:Bool)(h:Pk q F w st)(h0:w.cell? ⟨p,0,none⟩=some (.pointer (some ⟨q,0,none⟩)))(h1:w.cell? ⟨p,1,none⟩=some (.bool off)):
  Calls Tryz.prog 51 #[.pointer (some ⟨p,0,none⟩)] w fun E w'=>E=.returned (.int .i64 (if (off|| !st.on)=true then 6 else 0))∧w=w':=by
 have HM:=hide (mq p q w h0)
 have HO:=hide (yE q F w st h)
 clear h
 generalize st.on=on at*
 cases off
 ·cases on
  all_goals
   simp only[Bool.false_or,Bool.not_true,Bool.not_false,if_true,Bool.false_eq_true,if_false]
   go_enter Tryz.func51,Tryz.ntmps51
   go_wp2_with fail
   refine HM.out.mono ?_
   rintro E w1 ⟨rfl,rfl⟩
   clear HM
   go_wp2_with fail
   refine HO.out.mono ?_
   rintro E w1 ⟨rfl,rfl⟩
   clear HO
   go_wp2
   go_ret
   exact⟨rfl,rfl⟩
 ·simp only[Bool.true_or,if_true]
  go_enter Tryz.func51,Tryz.ntmps51
  go_wp2_with fail
  refine HM.out.mono ?_
  rintro E w1 ⟨rfl,rfl⟩
  clear HM HO
  go_wp2
  go_ret
  exact⟨rfl,rfl⟩
theorem am7 (v:Value)(w:World)(h:v=.pointer none∨∃p,v=.pointer (some ⟨p,0,none⟩)∧w.cell? ⟨p,0,none⟩=some (.pointer none)):
  Calls Tryz.prog 51 #[v] w fun E w'=>E=.returned (.int .i64 1)∧w=w':=by
 have HM:=hide (nL v w h)
 clear h
 go_enter Tryz.func51,Tryz.ntmps51
 go_wp2_with fail
 refine HM.out.mono ?_
 rintro E w1 ⟨rfl,rfl⟩
 clear HM
 go_wp2
 go_ret
 exact⟨rfl,rfl⟩
theorem kJ (v:Value)(p B n:Nat)(fs:List Value)(w:World)(Q:Int→World→Prop)(hn:fs.length=n)(hl:n≤100)(hB:w.heap[B]? =some (.cells fs.toArray 134 (0,0)))(h:Run B Q fs w)(hst:∀W,Q 6 W→v=.pointer (some ⟨p,0,none⟩)∧∃cs b,W.heap[p]? =some (.cells cs 60 (0,0))∧cs[1]? =some (.bool b)):
  Calls Tryz.prog 50 #[v,.slice (some ⟨B,0,none⟩) n n] w fun E w'=>∃e W,E=.returned (.int .i64 e)∧Q e W∧((e≠6∧w'=W)∨(e=6∧w'=W.setCell ⟨p,1,none⟩ (.bool true))):=by
 have HO:=hide (oz B n fs w Q hn hl hB h)
 have HS:=hide hst
 clear h hB hst hn hl
 go_enter Tryz.func50,Tryz.ntmps50
 go_wp2_with fail
 refine HO.out.mono ?_
 rintro E W ⟨e,rfl,hq⟩
 clear HO
 by_cases he:e=6
 ·subst he
  obtain⟨rfl,cs,b,x1,x2⟩:=HS.out W hq
  have c1:=ai x1 1 x2
  have f1:=az x1 1
  have HQ:=hide hq
  clear hq x1 x2 HS
  go_wp2
  go_ret
  exact⟨6,W,rfl,HQ.out,.inr ⟨rfl,rfl⟩⟩
 ·have he':(e==6)=false:=by simpa using he
  have HQ:=hide hq
  clear hq HS
  go_wp2
  go_ret
  exact⟨e,_,rfl,HQ.out,.inl ⟨he,rfl⟩⟩
theorem lI (b o:Nat)(w:World)(vc:Value)(rs:List Cw)(hc:w.cell? ⟨b,o,none⟩=some vc)(h:dZ w vc rs):
  Calls Tryz.prog 143 #[.pointer (some ⟨b,o,none⟩)] w fun E w'=>E=.returned (.int .i64 rs.length)∧w=w':=by
 obtain⟨ao,cap,rfl,_,_⟩:=h.shape
 clear h
 go_enter Tryz.func143,Tryz.ntmps143
 go_wp2
 go_ret
 exact⟨rfl,rfl⟩
theorem aiE {l:List Cm.Cv}{k:Nat}{c:Cm.Cv}(hk:l[k]? =some c)(hl:l.length=k+1)(e:Int):Cm.lastE e l=c.e:=by
 rcases List.eq_nil_or_concat l with rfl|⟨r,d,rfl⟩
 ·simp at hk
 ·rw[List.concat_eq_append]at hk hl⊢
  rw[List.length_append,List.length_singleton]at hl
  obtain rfl:r.length=k:=by omega
  rw[(Cm.dX r d e 0).1]
  simp at hk
  rw[hk]
theorem acN (b o:Nat)(w:World)(vc:Value)(rs:List Cw)(hc:w.cell? ⟨b,o,none⟩=some vc)(h:dZ w vc rs)(hl:rs.length≤1048576):
  Calls Tryz.prog 118 #[.pointer (some ⟨b,o,none⟩)] w fun E w'=>E=.returned (.int .i64 (Cm.lastE 0 (aD rs)))∧∃m,w'=w.drewN m:=by
 have HE:=hide (lI b o w vc rs hc h)
 by_cases h0:rs.length=0
 ·have hr:rs=[]:=List.eq_nil_of_length_eq_zero h0
  subst hr
  clear h
  go_enter Tryz.func118,Tryz.ntmps118
  go_wp2_with fail
  refine HE.out.mono ?_
  rintro E w1 ⟨rfl,rfl⟩
  go_wp2
  go_ret
  exact⟨rfl,0,rfl⟩
 ·obtain⟨k,hk⟩:∃k,rs.length=k+1:=⟨rs.length-1,by omega⟩
  have HEq:Hid (∀n,Calls Tryz.prog 143 #[.pointer (some ⟨b,o,none⟩)] (w.drewN n) fun E w'=>E=.returned (.int .i64 rs.length)∧∃m,w'=(w.drewN n).drewN m):=hide fun n=>
   (lI b o (w.drewN n) vc rs hc (h.below (below_drewN (Below.refl _ _) n))).mono fun E w' h=>⟨h.1,0,by rw[←h.2];rfl⟩
  obtain⟨g,off,cap,rfl,_,_,_,hcell⟩:=h.full (by omega)
  obtain⟨c,hck⟩:∃c,rs[k]? =some c:=⟨rs[k]'(by omega),by rw[List.getElem?_eq_getElem]⟩
  obtain⟨c0,_,_⟩:=hcell k c hck
  have hL:Cm.lastE 0 (aD rs)=c.e:=aiE (k:=k) (c:=c.c) (by unfold aD;rw[List.getElem?_map,hck];rfl) (by unfold aD;rw[List.length_map];exact hk) 0
  rw[hL]
  rw[hk]at HE HEq hc
  have hne:(((k+1:Nat):Int)==0)=false:=by simp;omega
  have hw:IntKind.i64.wrap (((k+1:Nat):Int)-1)=(k:Int):=by rw[aN _ (by omega) (by omega)];omega
  have hk1:(k:Int)<((k+1:Nat):Int):=by omega
  clear h hcell hck hL
  go_enter Tryz.func118,Tryz.ntmps118
  go_wp2_with fail
  refine HE.out.mono ?_
  rintro E w1 ⟨rfl,rfl⟩
  go_wp2
  go_quiet ((go_at_call 143;refine Calls.quiet_of (HEq.out _)))
  go_wp2
  go_ret
  exact⟨rfl,_,rfl⟩
theorem ab2 (b o:Nat)(w:World)(ve:Value)(l:List Cm.Cv)(n:Nat)(hn:n≤l.length)(hl:l.length≤1048576)(hc:w.cell? ⟨b,o+1,none⟩=some ve)(h:Is .i64 w ve (ends l)):
  Calls Tryz.prog 181 #[.pointer (some ⟨b,o,none⟩),.int .i64 n] w fun E w'=>E=.returned (.int .i64 (Wl.aW (l.take n)).length)∧w=w':=by
 by_cases h0:n=0
 ·subst h0
  clear h
  go_enter Tryz.func181,Tryz.ntmps181
  go_wp2
  go_ret
  exact⟨rfl,rfl⟩
 ·obtain⟨k,rfl⟩:∃k,n=k+1:=⟨n-1,by omega⟩
  obtain⟨g,off,cap,rfl,_,_,_,hcell⟩:=h.full (by rw[wL];omega)
  have c0:=hcell k (by rw[wL];omega)
  rw[aug l k (by omega)]at c0
  rw[wL]at hc
  have hne:(((k+1:Nat):Int)==0)=false:=by simp;omega
  have hw:IntKind.i64.wrap (((k+1:Nat):Int)-1)=(k:Int):=by rw[aN _ (by omega) (by omega)];omega
  have hk1:(k:Int)<(l.length:Int):=by omega
  generalize ((Wl.aW (List.take (k+1) l)).length:Int)=z at*
  clear h hcell
  go_enter Tryz.func181,Tryz.ntmps181
  go_wp2
  go_ret
  exact⟨rfl,rfl⟩
def tk (l:List Cm.Cv) (c:Cm.Cv):Bool:=decide (Cm.aJ c.e c.n c.l=0∧¬(c.n-1≠l.length∨c.e<Cm.lastE 0 l))
theorem axm (l:List Cm.Cv)(c:Cm.Cv):tk l c=(((Cm.fol (Cm.lastE 0 l) l.length 0 [c]).1==0)&&((Cm.fol (Cm.lastE 0 l) l.length 0 [c]).2==0)):=by
 unfold tk
 by_cases h1:Cm.aJ c.e c.n c.l=0
 ·by_cases h2:c.n-1≠l.length∨c.e<Cm.lastE 0 l
  ·rw[Cm.zY h1 h2,decide_eq_false (fun h=>h.2 h2)]
   rfl
  ·rw[Cm.acU h1 h2,decide_eq_true ⟨h1,h2⟩]
   rfl
 ·rw[Cm.zX h1,decide_eq_false (fun h=>h1 h.1)]
  simp[h1]
theorem adT {l:List Cm.Cv}(h:Cm.Good 0 0 l)(c:Cm.Cv):tk l c=true↔Cm.Good 0 0 (l++[c]):=by
 unfold tk
 rw[decide_eq_true_iff,Wl.mF h]
theorem Tryz.aBF (a b c d:Int)(w:World):(binOp .eql 98 (.agg #[.int .i64 a,.int .i64 b]) (.agg #[.int .i64 c,.int .i64 d])).run Tryz.prog w=.ok (.bool ((a==c)&&(b==d))) w:=by
 rw[run_eql_struct,run_equalIn_agg w 9999 98 _ _ (by kernel_rfl) (by kernel_rfl)]
 unfold Program.fieldsOf
 rw[Tryz.underlying98]
 simp[Op.eqFields,go_sem,Tryz.underlying26,Tryz.underlying3]
 by_cases h1:a=c<;>by_cases h2:b=d<;>simp[h1,h2]
theorem oQ (p q:Nat)(w:World)(cs:Array Value)(u1 u2 u3:Value)(hB:w.heap[p]? =some (.cells #[.pointer (some ⟨q,0,none⟩),u1,u2,u3] 154 (0,0))):
  Calls Tryz.prog 117 #[.pointer (some ⟨p,0,none⟩)] w fun E w'=>E=.returned (.bool true)∧w=w':=by
 have c0:=ai hB 0 rfl
 clear hB
 go_enter Tryz.func117,Tryz.ntmps117
 go_wp2
 go_ret
 exact⟨rfl,rfl⟩
theorem wO:∀(r:List Cw),ccells r=gcells gD r
 |[]=>rfl
 |c::r=>by rw[ccells,gcells,wO r]
theorem acr {e base:Nat}{w:World}{v:Value}{r:List Cw}:bG e base w v r↔gG gD 3 e base w v r:=by
 unfold bG gG
 rw[wO]
theorem oO (c:Cw):(gD c).length=3:=rfl
theorem Tryz.info3:(Tryz.prog.info? 3).map (fun i=>(i.zero,i.size,i.bytes))=some (some (.int .i64 0),1,8):=by kernel_rfl
section
variable {base b o:Nat} {t:TypeId} {cs:Array Value} {W:World} {vc ve:Value} {rs:List Cw} {zs:List Int}
theorem alI (hB:W.heap[b]? =some (.cells cs t (0,0)))(ho:cs[o+1]? =some ve)(h1:t≠32)(h2:t≠3)(h3:t≠106)(h:Lr base W vc ve rs zs)(hl:zs.length≤1048576)(hbase:base≤W.heap.size)(x:Int)(hx:(Lit.int .i64 x).wf=true):
  ∃V,W.drew.alloc (.cells #[.int .i64 x] 3)=V∧V.cell? ⟨b,o+1,none⟩=some ve∧Hid (∀ty,∃v' w',(Builtin.append_ #[150,150] ty #[ve,.slice (some ⟨W.heap.size,0,none⟩) 1 1]).run Tryz.prog V=.ok v' w'∧
   ((∃U,w'.setCell ⟨b,o+1,none⟩ v'=U∧U.heap[b]? =some (.cells (cs.setIfInBounds (o+1) v') t (0,0))∧Lr base U vc v' rs (zs++[x])∧Out (fun g=>g=b∨ve.ownBlock=some g) W U∧(v'.ownBlock=ve.ownBlock∨∃g,v'.ownBlock=some g∧W.heap.size≤g))∧w'.cell? ⟨b,o+1,none⟩=some ve∧w'.frozen? ⟨b,o+1,none⟩=false∧∃a n c,v'=.slice a n c)):=by
 obtain⟨V,hV,fE,bn,own⟩:=lK .i64 3 W.drew #[.int .i64 x] 1 [x] rfl rfl (by simp[maxLen]) (by simpa using hx)
 have aF:Below W.heap.size W V:=(below_drewN (Below.refl W.heap.size W) 1).trans bn
 have hbw:b<W.heap.size:=aA hB
 have tZ:V.heap[b]? =some (.cells cs t (0,0)):=(aF.block b hbw).trans hB
 refine⟨V,hV,ai tZ (o+1) ho,hide fun ty=>?_⟩
 have hV':=h.below aF
 have aAG:V.heap.size=W.heap.size+1:=fE
 obtain⟨v',w',hr,hown,hg,hat⟩:=lJ (P:=Tryz.prog) (w:=V) 150 ty .i64 3 base 8 Tryz.underlying150 Tryz.info3 (by decide) ve zs hV'.en _ [x] own.is (by simp;omega) (by omega)
 have hne:∀g,ve.ownBlock=some g→g≠b:=fun g hg e=>h.ne hB h1 h2 h3 (.inr (.inl (e▸hg)))
 have hBw:w'.heap[b]? =some (.cells cs t (0,0)):=(hg.block b (by omega) fun e=>hne b e.symm rfl).trans tZ
 obtain⟨U,hU⟩:∃U,w'.setCell ⟨b,o+1,none⟩ v'=U:=⟨_,rfl⟩
 have oU:Out (fun g=>g=b) w' U:=by
  rw[←hU]
  exact Out.aT (aC w' ⟨b,o+1,none⟩ _) fun g hg=>by simp at hg;exact hg.symm
 have oA:Out (fun g=>g=b∨ve.ownBlock=some g) W w':=(Out.of_below (F:=fun g=>g=b∨ve.ownBlock=some g) aF).trans (Out.aT (F:=fun g=>g=b∨ve.ownBlock=some g) hg fun g hg=>.inr hg) fun g hg=>.inl hg
 have oW:Out (fun g=>g=b∨ve.ownBlock=some g) W U:=oA.trans oU fun g hg=>.inl (.inl hg)
 have nvc:∀g,vc.ownBlock=some g→ve.ownBlock≠some g:=fun g hg he=>by
  obtain⟨c1,e1⟩:=h.row.type hg
  obtain⟨c2,e2⟩:=h.en.type he
  rw[e1]at e2
  simp only[Option.some.injEq,Obj.cells.injEq]at e2
  exact absurd e2.2.1 (by decide)
 have nop:∀c∈rs,∀g,c.v.ownBlock=some g→ve.ownBlock≠some g:=fun c hc g hg he=>by
  obtain⟨c1,e1⟩:=(h.gT c hc).type hg
  obtain⟨c2,e2⟩:=h.en.type he
  rw[e1]at e2
  simp only[Option.some.injEq,Obj.cells.injEq]at e2
  exact absurd e2.2.1 (by decide)
 refine⟨v',w',hr,⟨U,hU,by rw[←hU,aL hBw],⟨?_,?_,?_⟩,oW,?_⟩,ai hBw (o+1) ho,az hBw (o+1),hown.is.form⟩
 ·refine dE h.row fun g hg=>oW.block g (World.ownsRow.lt h.row g hg).2 fun e=>?_
  rcases e with e|e
  ·exact h.ne hB h1 h2 h3 (.inl (e▸hg))
  ·exact nvc g hg e
 ·intro c hc
  refine dE (h.gT c hc) fun g hg=>oW.block g ((h.gT c hc).block g hg).2 fun e=>?_
  rcases e with e|e
  ·exact h.ne hB h1 h2 h3 (.inr (.inr ⟨c,hc,e▸hg⟩))
  ·exact nop c hc g hg e
 ·refine hown.agree fun g hg=>oU.block g (hown.block g hg).2 fun e=>?_
  obtain⟨c1,e1⟩:=hown.type hg
  rw[e,hBw]at e1
  simp only[Option.some.injEq,Obj.cells.injEq]at e1
  exact h2 e1.2.1
 ·rcases hat with e|e
  ·exact .inl e
  ·exact .inr ⟨_,e,by omega⟩
theorem amk (hB:W.heap[b]? =some (.cells cs t (0,0)))(ho:cs[o]? =some vc)(h1:t≠32)(h2:t≠3)(h3:t≠106)(h:Lr base W vc ve rs zs)(hl:rs.length≤1048576)(hbase:base≤W.heap.size)(c:Cw)(hc:aV 106 base W c.v c.l):
  ∃V,W.drew.alloc (.cells #[.int .i64 c.e,.int .i64 c.n,c.v] 32)=V∧V.cell? ⟨b,o,none⟩=some vc∧Hid (∀ty,∃v' w',(Builtin.append_ #[43,43] ty #[vc,.slice (some ⟨W.heap.size,0,none⟩) 1 1]).run Tryz.prog V=.ok v' w'∧
   ((∃U,w'.setCell ⟨b,o,none⟩ v'=U∧U.heap[b]? =some (.cells (cs.setIfInBounds o v') t (0,0))∧Lr base U v' ve (rs++[c]) zs∧Out (fun g=>g=b∨vc.ownBlock=some g) W U∧(v'.ownBlock=vc.ownBlock∨∃g,v'.ownBlock=some g∧W.heap.size≤g))∧w'.cell? ⟨b,o,none⟩=some vc∧w'.frozen? ⟨b,o,none⟩=false∧∃a n c,v'=.slice a n c)):=by
 obtain⟨V,hV,fE,bn,own⟩:=oI gD 3 oO 32 W.drew #[.int .i64 c.e,.int .i64 c.n,c.v] 1 [c] rfl rfl (by simp[maxLen])
 have aF:Below W.heap.size W V:=(below_drewN (Below.refl W.heap.size W) 1).trans bn
 have hbw:b<W.heap.size:=aA hB
 have tZ:V.heap[b]? =some (.cells cs t (0,0)):=(aF.block b hbw).trans hB
 refine⟨V,hV,ai tZ o ho,hide fun ty=>?_⟩
 have hV':=h.below aF
 have aAG:V.heap.size=W.heap.size+1:=fE
 obtain⟨v',w',hr,hown,hg,hat⟩:=kE (P:=Tryz.prog) (w:=V) 43 ty gD 3 40 oO (by decide) (by decide) (.agg #[.int .i64 0,.int .i64 0,.slice none 0 0]) rfl 32 base Tryz.underlying43 Tryz.uB vc rs (acr.1 hV'.row) _ [c] own.row (by
  rw[←wO]
  exact ll [c] fun d hd=>by rw[List.mem_singleton.1 hd];exact hc.is.one) (by simp;omega) (by omega)
 have hne:∀g,vc.ownBlock=some g→g≠b:=fun g hg e=>h.ne hB h1 h2 h3 (.inl (e▸hg))
 have hBw:w'.heap[b]? =some (.cells cs t (0,0)):=(hg.block b (by omega) fun e=>hne b e.symm rfl).trans tZ
 obtain⟨U,hU⟩:∃U,w'.setCell ⟨b,o,none⟩ v'=U:=⟨_,rfl⟩
 have oU:Out (fun g=>g=b) w' U:=by
  rw[←hU]
  exact Out.aT (aC w' ⟨b,o,none⟩ _) fun g hg=>by simp at hg;exact hg.symm
 have oA:Out (fun g=>g=b∨vc.ownBlock=some g) W w':=(Out.of_below (F:=fun g=>g=b∨vc.ownBlock=some g) aF).trans (Out.aT (F:=fun g=>g=b∨vc.ownBlock=some g) hg fun g hg=>.inr hg) fun g hg=>.inl hg
 have oW:Out (fun g=>g=b∨vc.ownBlock=some g) W U:=oA.trans oU fun g hg=>.inl (.inl hg)
 have nve:∀g,ve.ownBlock=some g→vc.ownBlock≠some g:=fun g hg he=>by
  obtain⟨c1,e1⟩:=h.en.type hg
  obtain⟨c2,e2⟩:=h.row.type he
  rw[e1]at e2
  simp only[Option.some.injEq,Obj.cells.injEq]at e2
  exact absurd e2.2.1 (by decide)
 have opb:∀d:Cw,aV 106 base W d.v d.l→aV 106 base U d.v d.l:=fun d hd=>by
  refine dE hd fun g hg=>oW.block g (aV.block hd g hg).2 fun e=>?_
  obtain⟨c1,e1⟩:=hd.type hg
  rcases e with e|e
  ·rw[e,hB]at e1
   simp only[Option.some.injEq,Obj.cells.injEq]at e1
   exact h3 e1.2.1
  ·obtain⟨c2,e2⟩:=h.row.type e
   rw[e1]at e2
   simp only[Option.some.injEq,Obj.cells.injEq]at e2
   exact absurd e2.2.1 (by decide)
 obtain⟨xa,xc,hv',_⟩:=hown.row.shape
 refine⟨v',w',hr,⟨U,hU,by rw[←hU,aL hBw],⟨?_,?_,?_⟩,oW,?_⟩,ai hBw o ho,az hBw o,xa,_,xc,hv'⟩
 ·refine acr.2 (hown.agree fun g hg=>oU.block g (hown.lt g hg).2 fun e=>?_)
  obtain⟨c1,e1⟩:=hown.type hg
  rw[e,hBw]at e1
  simp only[Option.some.injEq,Obj.cells.injEq]at e1
  exact h1 e1.2.1
 ·intro d hd
  rcases List.mem_append.1 hd with hd|hd
  ·exact opb d (h.gT d hd)
  ·rw[List.mem_singleton.1 hd]
   exact opb c hc
 ·refine h.en.agree fun g hg=>oW.block g (h.en.block g hg).2 fun e=>?_
  rcases e with e|e
  ·exact h.ne hB h1 h2 h3 (.inr (.inl (e▸hg)))
  ·exact nve g hg e
 ·rcases hat with e|e
  ·exact .inl e
  ·exact .inr ⟨_,e,by omega⟩
end
end Go.Proofs.YtpifdeoepppadaaGreatDoor
namespace Go.Proofs.YtpifdeoepppadaaGreatDoor
set_option linter.unusedVariables false
def uf (bs:List Int) (l:List Cm.Cv):Prop:=Cm.Good 0 0 l∧Wl.aW l<+:bs
theorem uf.nil (bs:List Int):uf bs []:=⟨trivial,List.nil_prefix⟩
theorem uf.stop {bs z:List Int}{l:List Cm.Cv}{n:Nat}(h:uf bs l)(hr:Fm.Rd (bs.drop (Wl.aW l).length) z n 5):Wl.Lg 0 0 bs l:=by
 refine⟨h.1,h.2,fun c hc hp=>?_⟩
 rcases hr with⟨h0,_⟩|⟨_,_,_,h3⟩
 ·cases h0
 ·have:=Wl.mh (Wl.fq hc)
  exact h3 (Wl.rec c) (by omega) hp
theorem zu {bs z:List Int}{n:Nat}(hr:Fm.Rd bs z n 0):z.length≤131072∧n=(Fm.dh z).length∧Fm.dh z<+:bs:=by
 rcases hr with⟨_,h1,h2,h3⟩|⟨h0,_⟩
 ·exact⟨h1,by rw[h2,Fm.jF],h3⟩
 ·cases h0
theorem uf.akG {bs z:List Int}{l:List Cm.Cv}{n:Nat}{e k:Int}{ops:List Bm.Ov}(h:uf bs l)(hr:Fm.Rd (bs.drop (Wl.aW l).length) z n 0)(hc:Cm.gH z e k ops 5):Wl.Lg 0 0 bs l:=by
 obtain⟨_,_,h3⟩:=zu hr
 refine⟨h.1,h.2,fun c hg hp=>?_⟩
 have e1:Wl.rec c=z:=Fm.iR hp h3
 rcases hc with⟨h0,_⟩|⟨_,_,_,_,h4⟩
 ·cases h0
 ·exact h4 c.e c.n c.l (Wl.fq hg) e1
theorem uf.akS {bs z:List Int}{l:List Cm.Cv}{n:Nat}{e k:Int}{ops:List Bm.Ov}(h:uf bs l)(hr:Fm.Rd (bs.drop (Wl.aW l).length) z n 0)(hc:Cm.gH z e k ops 0)(ht:tk l ⟨e,k,ops⟩=false):Wl.Lg 0 0 bs l:=by
 obtain⟨_,_,h3⟩:=zu hr
 refine⟨h.1,h.2,fun c hg hp=>?_⟩
 have e1:Wl.rec c=z:=Fm.iR hp h3
 rcases hc with⟨_,h1,h2⟩|⟨h0,_⟩
 ·obtain⟨a1,a2,a3⟩:=Cm.aaZ h1 (Wl.fq hg) (h2.trans e1.symm)
  have hk:=(Cm.dG l [c] 0 0).2 ⟨h.1,hg⟩
  have:=(adT h.1 c).2 hk
  have ec:c=⟨e,k,ops⟩:=by
   cases c
   simp only at a1 a2 a3
   rw[a1,a2,a3]
  rw[ec,ht]at this
  cases this
 ·cases h0
theorem uf.next {bs z:List Int}{l:List Cm.Cv}{n:Nat}{e k:Int}{ops:List Bm.Ov}(h:uf bs l)(hr:Fm.Rd (bs.drop (Wl.aW l).length) z n 0)(hc:Cm.gH z e k ops 0)(ht:tk l ⟨e,k,ops⟩=true):
  uf bs (l++[⟨e,k,ops⟩])∧n=(Wl.fr ⟨e,k,ops⟩).length∧(Wl.aW (l++[⟨e,k,ops⟩])).length=(Wl.aW l).length+n:=by
 obtain⟨_,h2,h3⟩:=zu hr
 rcases hc with⟨_,h1,h4⟩|⟨h0,_⟩
 ·have e1:Wl.fr ⟨e,k,ops⟩=Fm.dh z:=by
   unfold Wl.fr Wl.rec
   rw[←h4]
  have e2:Wl.aW (l++[⟨e,k,ops⟩])=Wl.aW l++Fm.dh z:=by rw[Wl.jC,Wl.lU,e1]
  refine⟨⟨(adT h.1 _).1 ht,?_⟩,by rw[e1];exact h2,by rw[e2,List.length_append,h2]⟩
  rw[e2]
  exact Fm.og h.2 h3
 ·cases h0
end Go.Proofs.YtpifdeoepppadaaGreatDoor
namespace Go.Proofs.YtpifdeoepppadaaGreatDoor
open Go.RowKit
set_option linter.unusedVariables false
theorem Tryz.anN:∀args w,(callFunc 143 args).run Tryz.prog w=.ok (.enter 143 args) w:=enters_of Tryz.func143 (by kernel_rfl) rfl
theorem Tryz.anK:∀args w,(callFunc 181 args).run Tryz.prog w=.ok (.enter 181 args) w:=enters_of Tryz.func181 (by kernel_rfl) rfl
theorem aeJ (b o:Nat)(w:World)(vc:Value)(rs:List Cw)(hc:w.cell? ⟨b,o,none⟩=some vc)(h:dZ w vc rs)(hl:rs.length≤1048576)(c:Cw)(hi:dm w c.v c.l)(he:In64 c.e)(hn:In64 c.n)(hf:fG c.l)(hlo:c.l.length*40≤140737488351232):
  Calls Tryz.prog 168 #[.pointer (some ⟨b,o,none⟩),cZ c.e c.n c.v] w fun E w'=>E=.returned (.bool (tk (aD rs) c.c))∧Below w.heap.size w w':=by
 obtain⟨ao,cap,hv,_,_⟩:=hi.shape
 obtain⟨w1,hw1,bH,ax,hB⟩:=ay w #[.int .i64 c.e,.int .i64 c.n,c.v] 32
 have c0:w1.cell? ⟨w.heap.size,0,none⟩=some (.int .i64 c.e):=ai hB 0 rfl
 have c1:w1.cell? ⟨w.heap.size,1,none⟩=some (.int .i64 c.n):=ai hB 1 rfl
 have c2:w1.cell? ⟨w.heap.size,2,none⟩=some c.v:=ai hB 2 rfl
 have hbw:b<w.heap.size:=World.block_lt_of_cell? _ _ hc
 have hK:∀W,Below w1.heap.size w1 W→Below w.heap.size w W:=fun W hb=>ax.trans (hb.mono ax.size)
 have hS:∀W,Below w1.heap.size w1 W→W.cell? ⟨w.heap.size,0,none⟩=some (.int .i64 c.e)∧W.cell? ⟨w.heap.size,1,none⟩=some (.int .i64 c.n)∧W.cell? ⟨w.heap.size,2,none⟩=some c.v:=fun W hb=>
  ⟨(hb.cell (p:=⟨w.heap.size,0,none⟩) (show w.heap.size<w1.heap.size by omega)).trans c0,(hb.cell (p:=⟨w.heap.size,1,none⟩) (show w.heap.size<w1.heap.size by omega)).trans c1,(hb.cell (p:=⟨w.heap.size,2,none⟩) (show w.heap.size<w1.heap.size by omega)).trans c2⟩
 have HE:Hid (∀W,Below w1.heap.size w1 W→Calls Tryz.prog 118 #[.pointer (some ⟨b,o,none⟩)] W fun E w'=>E=.returned (.int .i64 (Cm.lastE 0 (aD rs)))∧Below W.heap.size W w'∧Below w1.heap.size w1 w'∧w'.cell? ⟨w.heap.size,0,none⟩=some (.int .i64 c.e)∧w'.cell? ⟨w.heap.size,1,none⟩=some (.int .i64 c.n)∧w'.cell? ⟨w.heap.size,2,none⟩=some c.v):=hide fun W hb=>by
  refine(acN b o W vc rs (((hK W hb).cell (p:=⟨b,o,none⟩) hbw).trans hc) (h.below (hK W hb)) hl).mono ?_
  rintro E w' ⟨rfl,m,rfl⟩
  exact⟨rfl,below_drewN (Below.refl _ _) m,below_drewN hb m,hS _ (below_drewN hb m)⟩
 have HN:Hid (∀W,Below w1.heap.size w1 W→Calls Tryz.prog 143 #[.pointer (some ⟨b,o,none⟩)] W fun E w'=>E=.returned (.int .i64 rs.length)∧W=w'):=hide fun W hb=>
  lI b o W vc rs (((hK W hb).cell (p:=⟨b,o,none⟩) hbw).trans hc) (h.below (hK W hb))
 have hcl:(aD rs).length=rs.length:=cK rs
 obtain⟨fe,fp,apy⟩:∃fe fp,Cm.fol (Cm.lastE 0 (aD rs)) rs.length 0 [c.c]=(fe,fp):=⟨_,_,rfl⟩
 have HT:Hid (tk (aD rs) c.c=((fe==0)&&(fp==0))):=hide (by rw[axm,hcl,apy])
 have HF:Hid (∀W v,Below w1.heap.size w1 W→dZ W v [c]→Calls Tryz.prog 53 #[.int .i64 (Cm.lastE 0 (aD rs)),.int .i64 rs.length,v] W fun E w'=>E=.returned (.agg #[.int .i64 fe,.int .i64 fp])∧Below w1.heap.size w1 w'∧w'.cell? ⟨w.heap.size,0,none⟩=some (.int .i64 c.e)∧w'.cell? ⟨w.heap.size,1,none⟩=some (.int .i64 c.n)∧w'.cell? ⟨w.heap.size,2,none⟩=some c.v):=hide fun W v hb hr=>by
  have hx:=rR (Cm.lastE 0 (aD rs)) rs.length v [c] W ⟨hr,fun d hd=>by rw[List.mem_singleton.1 hd];exact⟨hi.below (hK W hb),he,hn⟩⟩ (fun d hd=>by rw[List.mem_singleton.1 hd];exact⟨hf,hlo⟩) (by simp)
  rw[show aD [c]=[c.c]from rfl,apy]at hx
  refine hx.mono ?_
  rintro E w' ⟨rfl,hb'⟩
  have hb2:=hb.trans (hb'.mono hb.size)
  exact⟨rfl,hb2,hS _ hb2⟩
 have hrow:Hid (∀W,∃V,W.alloc (.cells #[.int .i64 c.e,.int .i64 c.n,c.v] 32)=V∧Below W.heap.size W V∧dZ V (.slice (some ⟨W.heap.size,0,none⟩) 1 1) [c]):=hide fun W=>by
  obtain⟨V,hV,_,bV,oV⟩:=gN 32 W #[.int .i64 c.e,.int .i64 c.n,c.v] 1 [c] rfl rfl (by simp[maxLen])
  exact⟨V,hV,bV,oV.row⟩
 obtain⟨wA,hwA,rf,aye⟩:=hrow.out w1.drew
 have b1A:Below w1.heap.size w1 wA:=(Below.refl w1.heap.size w1).drew.trans rf
 obtain⟨a0,a1,a2⟩:=hS wA b1A
 have HS:=hide hS
 have RA:Hid (dZ wA (.slice (some ⟨w.heap.size+1,0,none⟩) 1 1) [c]):=hide (by rw[←bH];exact aye)
 have b11:Below w1.heap.size w1 w1.drew:=(Below.refl w1.heap.size w1).drew
 have q1:=Tryz.aBF fe fp 0 0
 have q2:=Tryz.acE .eql
 unfold cZ
 rw[hv]at c2 a2 hw1 hwA HE HF HS hrow⊢
 generalize Cm.lastE 0 (aD rs)=ep at*
 rw[HT.out]
 have FIN:Hid (∀W,Below w1.heap.size w1 W→Below w.heap.size w W):=hide hK
 clear hc h hi he hn hf hlo hB apy hv hcl hK hS aye rf
 go_enter Tryz.func168,Tryz.ntmps168
 go_wp2_with fail
 go_region_held3 (fun w'=>w'.cell? ⟨w.heap.size,0,none⟩=some (.int .i64 c.e)∧w'.cell? ⟨w.heap.size,1,none⟩=some (.int .i64 c.n)∧w'.cell? ⟨w.heap.size,2,none⟩=some (.slice ao c.l.length cap)) (first|exact⟨c0,c1,c2⟩|exact⟨a0,a1,a2⟩|exact⟨d0,d1,d2⟩|exact⟨e0,e1,e2⟩|exact⟨i0,i1,i2⟩|go_keep)
  (first
  |(go_at_call 118;refine(HE.out _ (by first|exact b11|exact b1A)).mono ?_;rintro E w2 ⟨rfl,aB,b12,d0,d1,d2⟩;first|(have akg:=hide (RA.out.below aB))|skip;obtain⟨w4,hw4,aS,adB⟩:=hrow.out w2;have b14:=b12.trans (aS.mono b12.size);obtain⟨e0,e1,e2⟩:=HS.out w4 b14;have adB:=hide adB;clear aB aS)
  |(go_at_call 143;refine(HN.out _ (by first|exact b12|exact b14)).mono ?_;rintro E w3 ⟨rfl,rfl⟩)
  |(go_at_call 53;refine(HF.out _ _ (by first|exact b14|exact b12) (by first|exact adB.out|exact akg.out)).mono ?_;rintro E w5 ⟨rfl,b15,i0,i1,i2⟩))
 all_goals
  go_wp2
  go_ret
  exact⟨rfl,FIN.out _ b15⟩
theorem ain (cs:Array Value)(i j:Nat)(v:Value)(h:i≠j):(cs.setIfInBounds i v)[j]? =cs[j]? :=by
 rw[Array.getElem?_setIfInBounds,if_neg h]
theorem aee (base b o:Nat)(t:TypeId)(cs:Array Value)(w:World)(l:List Cm.Cv)(vc ve:Value)(rs:List Cw)(c:Cw)(size:Nat)
  (hB:w.heap[b]? =some (.cells cs t (0,0))) (ho:cs[o]? =some vc) (ho1:cs[o+1]? =some ve) (h1:t≠32) (h2:t≠3) (h3:t≠106) (h:Lw base w l vc ve rs) (hbase:base≤w.heap.size)
  (hc:aV 106 base w c.v c.l) (hg:Cm.Good 0 0 (l++[c.c])) (hs:size=(Wl.fr c.c).length):
  Calls Tryz.prog 170 #[.pointer (some ⟨b,o,none⟩),cZ c.e c.n c.v,.int .i64 size] w fun E w'=>E=.returned (.tuple #[])∧
   ∃uN uI,w'.heap[b]? =some (.cells ((cs.setIfInBounds (o+1) uI).setIfInBounds o uN) t (0,0))∧Lw base w' (l++[c.c]) uN uI (rs++[c])∧Out (fun g=>g=b∨LB vc ve rs g) w w'∧∀g,LB uN uI (rs++[c]) g→LB vc ve rs g∨w.heap.size≤g∨c.v.ownBlock=some g:=by
 have hll:=eB h.good
 have hlen:=h.len
 obtain⟨ao,cap,hv,_,_⟩:=hc.is.shape
 obtain⟨w1,hw1,bH,ax,hB0⟩:=ay w #[.int .i64 c.e,.int .i64 c.n,c.v] 32
 have hbw:b<w.heap.size:=aA hB
 have hB1:w1.heap[b]? =some (.cells cs t (0,0)):=(ax.block b hbw).trans hB
 have L1:=h.below ax
 have hsum:(Wl.aW (l++[c.c])).length=(Wl.aW l).length+size:=by rw[Wl.jC,Wl.lU,List.length_append,hs]
 have hle:=ahS hg
 have hx:(Lit.int .i64 ((Wl.aW l).length+size:Int)).wf=true:=by
  have h5:(Wl.aW l).length+size≤454033408:=by omega
  exact wf_i64 (by omega) (by omega)
 have HE:Hid (Calls Tryz.prog 143 #[.pointer (some ⟨b,o,none⟩)] w1.drew fun E w'=>∃v,E=.returned v∧(v=.int .i64 rs.length∧w1.drew=w')):=hide ((lI b o w1.drew vc rs (ai hB1 o ho) (L1.r.row.row.below ((Below.refl _ _).drew))).mono fun E w' h=>⟨_,h.1,rfl,h.2⟩)
 have HP:Hid (Calls Tryz.prog 181 #[.pointer (some ⟨b,o,none⟩),.int .i64 rs.length] w1.drew fun E w'=>∃v,E=.returned v∧(v=.int .i64 (Wl.aW l).length∧w1.drew=w')):=hide (by
  have:=ab2 b o w1.drew ve l rs.length (by omega) hll (ai hB1 (o+1) ho1) (L1.r.en.is.drewN 1)
  rw[List.take_of_length_le (by omega)]at this
  exact this.mono fun E w' h=>⟨_,h.1,rfl,h.2⟩)
 obtain⟨V1,hV1,cV1,X1⟩:=alI (o:=o) hB1 ho1 h1 h2 h3 L1.r (by rw[wL];exact hll) (by omega) ((Wl.aW l).length+size:Int) hx
 have T2:Hid (∀v' U,U.heap[b]? =some (.cells (cs.setIfInBounds (o+1) v') t (0,0))→Lr base U vc v' rs (ends l++[((Wl.aW l).length+size:Int)])→Out (fun g=>g=b∨ve.ownBlock=some g) w1 U→(v'.ownBlock=ve.ownBlock∨∃g,v'.ownBlock=some g∧w1.heap.size≤g)→
   ∃V,U.drew.alloc (.cells #[.int .i64 c.e,.int .i64 c.n,c.v] 32)=V∧V.cell? ⟨b,o,none⟩=some vc∧U.cell? ⟨b,o,none⟩=some vc∧(U.cell? ⟨w.heap.size,0,none⟩=some (.int .i64 c.e)∧U.cell? ⟨w.heap.size,1,none⟩=some (.int .i64 c.n)∧U.cell? ⟨w.heap.size,2,none⟩=some c.v)∧(V.cell? ⟨w.heap.size,0,none⟩=some (.int .i64 c.e)∧V.cell? ⟨w.heap.size,1,none⟩=some (.int .i64 c.n)∧V.cell? ⟨w.heap.size,2,none⟩=some c.v)∧
   Hid (∀ty,∃v2 w2,(Builtin.append_ #[43,43] ty #[vc,.slice (some ⟨U.heap.size,0,none⟩) 1 1]).run Tryz.prog V=.ok v2 w2∧((∃U2,w2.setCell ⟨b,o,none⟩ v2=U2∧
    (U2.heap[b]? =some (.cells ((cs.setIfInBounds (o+1) v').setIfInBounds o v2) t (0,0))∧Lw base U2 (l++[c.c]) v2 v' (rs++[c])∧Out (fun g=>g=b∨LB vc ve rs g) w U2∧∀g,LB v2 v' (rs++[c]) g→LB vc ve rs g∨w.heap.size≤g∨c.v.ownBlock=some g))∧w2.cell? ⟨b,o,none⟩=some vc∧w2.frozen? ⟨b,o,none⟩=false∧∃a n c,v2=.slice a n c))):=hide fun v' U hBU LU oU aU=>by
  have hoU:(cs.setIfInBounds (o+1) v')[o]? =some vc:=by rw[ain _ _ _ _ (by omega)];exact ho
  have hne:¬(w.heap.size=b∨ve.ownBlock=some w.heap.size):=by
   rintro(e|e)
   ·omega
   ·have:=(h.r.en.block _ e).2
    omega
  have akw:=(oU.block w.heap.size (by omega) hne).trans hB0
  have hcU:aV 106 base U c.v c.l:=by
   refine dE (hc.below ax) fun g hg'=>oU.block g (aV.block (hc.below ax) g hg').2 ?_
   obtain⟨c1,e1⟩:=(hc.below ax).type hg'
   rintro(e|e)
   ·rw[e,hB1]at e1
    simp only[Option.some.injEq,Obj.cells.injEq]at e1
    exact h3 e1.2.1
   ·obtain⟨c2,e2⟩:=L1.r.en.type e
    rw[e1]at e2
    simp only[Option.some.injEq,Obj.cells.injEq]at e2
    exact absurd e2.2.1 (by decide)
  obtain⟨V2,hV2,cV2,X2⟩:=amk (o:=o) hBU hoU h1 h2 h3 LU (by omega) (by have:=oU.size;omega) c hcU
  have bn:Below U.heap.size U V2:=by
   rw[←hV2]
   exact(Below.refl U.heap.size U).drew.trans (show Below U.heap.size U.drew _ from(Below.refl U.drew.heap.size U.drew).alloc (Nat.le_refl _) _)
  have aoF:=(bn.block w.heap.size (by have:=oU.size;omega)).trans akw
  refine⟨V2,hV2,cV2,ai hBU o hoU,⟨ai akw 0 rfl,ai akw 1 rfl,ai akw 2 rfl⟩,⟨ai aoF 0 rfl,ai aoF 1 rfl,ai aoF 2 rfl⟩,hide fun ty=>?_⟩
  obtain⟨v2,w2,hr,⟨U2,hU2,az7,LU2,oU2,aU2⟩,k1,k2,k3⟩:=X2.out ty
  refine⟨v2,w2,hr,⟨U2,hU2,az7,⟨?_,?_,hg⟩,?_,?_⟩,k1,k2,k3⟩
  ·rw[alJ,hsum]
   exact LU2
  ·rw[aD,List.map_append,←aD,h.is]
   rfl
  ·have s1:Out (fun g=>g=b∨LB vc ve rs g) w w1:=Out.of_below ax
   have s2:Out (fun g=>g=b∨LB vc ve rs g) w U:=s1.trans oU fun g hg=>.inl (hg.elim .inl fun e=>.inr (.inr (.inl e)))
   exact s2.trans oU2 fun g hg=>.inl (hg.elim .inl fun e=>.inr (.inl e))
  ·have su:=oU.size
   rintro g (e|e|⟨d,hd,e⟩)
   ·rcases aU2 with a|⟨g',a,hg'⟩
    ·exact .inl (.inl (a▸e))
    ·rw[e]at a
     simp only[Option.some.injEq]at a
     exact .inr (.inl (by omega))
   ·rcases aU with a|⟨g',a,hg'⟩
    ·exact .inl (.inr (.inl (a▸e)))
    ·rw[e]at a
     simp only[Option.some.injEq]at a
     exact .inr (.inl (by omega))
   ·rcases List.mem_append.1 hd with hd|hd
    ·exact .inl (.inr (.inr ⟨d,hd,e⟩))
    ·rw[List.mem_singleton.1 hd]at e
     exact .inr (.inr e)
 have X1':Hid (∀ty,∃v' w',(Builtin.append_ #[150,150] ty #[ve,.slice (some ⟨w1.heap.size,0,none⟩) 1 1]).run Tryz.prog V1=.ok v' w'∧((∃U,w'.setCell ⟨b,o+1,none⟩ v'=U∧(U.heap[b]? =some (.cells (cs.setIfInBounds (o+1) v') t (0,0))∧Lr base U vc v' rs (ends l++[((Wl.aW l).length+size:Int)])∧Out (fun g=>g=b∨ve.ownBlock=some g) w1 U∧(v'.ownBlock=ve.ownBlock∨∃g,v'.ownBlock=some g∧w1.heap.size≤g)))∧w'.cell? ⟨b,o+1,none⟩=some ve∧w'.frozen? ⟨b,o+1,none⟩=false∧∃a n c,v'=.slice a n c)):=X1
 have c1:=ai hB1 (o+1) ho1
 have hwr:IntKind.i64.wrap (((Wl.aW l).length:Int)+size)=((Wl.aW l).length:Int)+size:=aN _ (by omega) (by omega)
 obtain⟨ea,ec,hve,_,_⟩:=h.r.en.is.shape
 obtain⟨ca,cc,mg,_,_⟩:=h.r.row.row.shape
 unfold cZ
 rw[hv]at hw1 T2⊢
 subst hve mg
 generalize (Wl.aW l).length=z at*
 clear hB h hc hB0 hB1 L1 X1 hg hs hsum hle hll hv ho ho1 hx ax hlen
 go_enter Tryz.func170,Tryz.ntmps170
 go_wp2_with fail
 go_region_law (first
  |(refine qH rfl 143 #[.tmp 12] #[195] rfl Tryz.anN #[.pointer (some ⟨b,o,none⟩)] (by first|(simp[Act.eval];done)|(simp[Act.eval,Act.put];done)) HE.out ?_;rintro _ _ ⟨rfl,rfl⟩)
  |(refine qH rfl 181 #[.tmp 11,.tmp 13] #[195,3] rfl Tryz.anK #[.pointer (some ⟨b,o,none⟩),.int .i64 rs.length] (by first|(simp[Act.eval];done)|(simp[Act.eval,Act.put];done)) HP.out ?_;rintro _ _ ⟨rfl,rfl⟩)
  |(refine fB rfl (.tmp 10) (.tmp 17) 150 rfl (.slice ea (ends l).length ec) (.slice (some ⟨w1.heap.size,0,none⟩) 1 1) (by first|(simp[Act.eval];done)|(simp[Act.eval,Act.put];done)) (by first|(simp[Act.eval];done)|(simp[Act.eval,Act.put];done)) X1'.out ?_;rintro v7 w7 ⟨⟨U,hU,hBU,LU,oU,aU⟩,d7,g7,a7,n7,k7,rfl⟩;obtain⟨V2,hV2,cV2,cU2,⟨p0,p1,p2⟩,⟨r0,r1,r2⟩,X2⟩:=T2.out _ U hBU LU oU aU;clear hBU LU oU aU))
 all_goals
  go_wp2_with fail
  go_region_law (refine fB rfl (.tmp 25) (.tmp 27) 43 rfl (.slice ca rs.length cc) (.slice (some ⟨U.heap.size,0,none⟩) 1 1) (by first|(simp[Act.eval];done)|(simp[Act.eval,Act.put];done)) (by first|(simp[Act.eval];done)|(simp[Act.eval,Act.put];done)) X2.out ?_;rintro v8 w8 ⟨⟨U2,hU2,J⟩,d8,g8,a8,n8,k8,rfl⟩;have J:=hide J)
  all_goals
   go_wp2
   go_end0
   exact⟨rfl,_,_,J.out⟩
structure oq (w wr:World) (bs:List Int) (l:List Cm.Cv) (vc ve:Value) (rs:List Cw):Prop where
 rd:uf bs l
 log:Lw (w.heap.size+2) wr l vc ve rs
 ap:nH rs
 bR:wr.heap[w.heap.size]? =some (.cells #[.slice none 0 0,.slice none 0 0] 152 (0,0))
 bL:wr.heap[w.heap.size+1]? =some (.cells #[vc,ve] 152 (0,0))
 aF:Below w.heap.size w wr
 sz:w.heap.size+2≤wr.heap.size
theorem oq.below {w wr w':World}{bs:List Int}{l:List Cm.Cv}{vc ve:Value}{rs:List Cw}(h:oq w wr bs l vc ve rs)(hb:Below wr.heap.size wr w'):oq w w' bs l vc ve rs:=
 ⟨h.rd,h.log.below hb,h.ap,(hb.block _ (by have:=h.sz;omega)).trans h.bR,(hb.block _ (by have:=h.sz;omega)).trans h.bL,h.aF.trans (hb.mono h.aF.size),Nat.le_trans h.sz hb.size⟩
theorem oq.fin {w wr:World}{bs:List Int}{l:List Cm.Cv}{vc ve:Value}{rs:List Cw}(h:oq w wr bs l vc ve rs):
  ∃V,(wr.setCell ⟨w.heap.size,0,none⟩ vc).setCell ⟨w.heap.size,1,none⟩ ve=V∧(wr.cell? ⟨w.heap.size,0,none⟩=some (.slice none 0 0)∧wr.cell? ⟨w.heap.size,1,none⟩=some (.slice none 0 0))∧(wr.frozen? ⟨w.heap.size,0,none⟩=false∧wr.frozen? ⟨w.heap.size,1,none⟩=false)∧(V.cell? ⟨w.heap.size,0,none⟩=some vc∧V.cell? ⟨w.heap.size,1,none⟩=some ve)∧Lw w.heap.size V l vc ve rs∧Below w.heap.size w V:=by
 obtain⟨V,hV,bV,gV,hc,hf,hz⟩:=dR h.bR vc ve
 refine⟨V,hV,hc,hf,hz,(h.log.agree fun g hg=>gV.block g (h.log.lt g hg) fun e=>?_).bz (by omega),aK h.aF gV (Nat.le_refl _) h.aF.size⟩
 have:=h.log.ge g hg
 simp at e
 omega
theorem oq.grow {w wr w':World}{bs:List Int}{l:List Cm.Cv}{vc ve uN uI:Value}{rs:List Cw}{c:Cw}(h:oq w wr bs l vc ve rs)(hr:uf bs (l++[c.c]))(hN:∃N,(∀d∈rs,∀b,d.v.ownBlock=some b→b<N)∧∀b,c.v.ownBlock=some b→N≤b)
  (hB:w'.heap[w.heap.size+1]? =some (.cells #[uN,uI] 152 (0,0))) (hL:Lw (w.heap.size+2) w' (l++[c.c]) uN uI (rs++[c])) (ho:Out (fun g=>g=w.heap.size+1∨LB vc ve rs g) wr w'):oq w w' bs (l++[c.c]) uN uI (rs++[c]):=by
 have hge:∀g,(g=w.heap.size+1∨LB vc ve rs g)→w.heap.size+1≤g:=fun g hg=>by
  rcases hg with e|e
  ·omega
  ·have:=h.log.ge g e
   omega
 obtain⟨N,h1,h2⟩:=hN
 refine⟨hr,hL,vH h.ap h1 h2,(ho.block _ (by have:=h.sz;omega) fun e=>by have:=hge _ e;omega).trans h.bR,hB,?_,Nat.le_trans h.sz ho.size⟩
 exact h.aF.trans (ho.below (fun g hg=>by have:=hge g hg;omega) h.aF.size)
theorem ank (vb:Value)(bs:List Int)(w:World)(hb:Is .u8 w vb bs)(hl:bs.length≤1000000000):
  Calls Tryz.prog 153 #[vb] w fun E w'=>∃(l:List Cm.Cv) (vc ve:Value) (rs:List Cw),E=.returned (.agg #[vc,ve])∧Lw w.heap.size w' l vc ve rs∧nH rs∧Below w.heap.size w w'∧Hid (Wl.Lg 0 0 bs l):=by
 obtain⟨w1,hw1,bH,ax,hR⟩:=ay w #[.slice none 0 0,.slice none 0 0] 152
 obtain⟨w2,hw2,fA,aB,hL⟩:=ay w1 #[.slice none 0 0,.slice none 0 0] 152
 have R0:oq w w2 bs [] (.slice none 0 0) (.slice none 0 0) []:=⟨uf.nil bs,Lw.nil _ _,fun i j c d _ hc=>by simp at hc,(aB.block _ (by omega)).trans hR,by rw[←bH];exact hL,ax.trans (aB.mono ax.size),by omega⟩
 have HB:=hide hb
 have HR0:=hide R0
 obtain⟨ba,bc,hvb,_,_⟩:=hb.shape
 clear hb R0 ax aB hR hL
 subst hvb
 go_enter Tryz.func153,Tryz.ntmps153
 go_wp2
 go_loopw [0] (fun fv wr=>∃(l:List Cm.Cv) (vc ve:Value) (rs:List Cw),Hid (oq w wr bs l vc ve rs)∧Hid (Is .u8 w fv (bs.drop (Wl.aW l).length))∧w.heap.size+2≤wr.heap.size) (fun fv _=>lenOf fv)
 case atStart=>exact⟨[],_,_,[],HR0,by simpa[Wl.aW,Fm.cat]using HB,by omega⟩
 case round=>
  obtain⟨l,vc,ve,rs,RS,HI,ru⟩:=hrel
  have HF:=hide (oN _ _ wr (HI.out.below RS.out.aF) (by rw[List.length_drop];omega))
  go_wp2_with fail
  refine HF.out.mono ?_
  rintro E wa ⟨v1,z,n,e,rfl,bJ,ax,R⟩
  have RA:=hide (RS.out.below ax)
  have sza:=ax.size
  clear HF RS
  have he:e=0∨e=5:=by
   rcases R.out with h|h
   ·exact .inl h.1
   ·exact .inr h.1
  rcases he with rfl|rfl
  ·have HZ:=hide (zu R.out)
   have hzl:z.length≤131072:=HZ.out.1
   have HD:=hide (ahK v1 z wa bJ.is (by omega))
   obtain⟨o1,k1,hv1,_,_⟩:=bJ.is.shape
   subst hv1
   clear bJ ax
   go_wp2_with fail
   refine HD.out.mono ?_
   rintro E wb ⟨ee,nn,g,vo,ops,rfl,zf,hcr,aB⟩
   have RB:=RA.out.below aB
   have szb:=aB.size
   have hgg:=Cm.awZ hcr
   have hbd:=Cm.air hcr
   obtain⟨o2,k2,hv2,_,_⟩:=zf.is.shape
   obtain⟨wc,hwc,ac8,szc,eU,bC,x0,x1,x2⟩:=dO wb 32 (.int .i64 0) (.int .i64 0) (.slice none 0 0) (.int .i64 ee) (.int .i64 nn) vo
   have RC:=RB.below eU
   have OC:=hide (zf.below eU)
   have HC:=hide hcr
   unfold cZ
   have sj:=hide hv2
   rw[hv2]at hwc ac8 x2⊢
   have F:=hide RC.fin
   have c0:=ai RC.bL 0 rfl
   have c1:=ai RC.bL 1 rfl
   obtain⟨ac,ak0,mg,_,_⟩:=RC.log.r.row.row.shape
   obtain⟨ae,aki,hve,_,_⟩:=RC.log.r.en.is.shape
   have R3:=hide RC
   have BA:=hide (show(∀d∈rs,∀b,d.v.ownBlock=some b→b<wa.heap.size)∧∀b,vo.ownBlock=some b→wa.heap.size≤b from⟨fun d hd b hb=>RA.out.log.lt b (.inr (.inr ⟨d,hd,hb⟩)),fun b hb=>(zf.block b hb).1⟩)
   clear RA HD RC RB zf hcr aB eU bC hv2
   rcases hgg with rfl|rfl
   ·have h64:In64 ee∧In64 nn:=⟨⟨by omega,by omega⟩,⟨by omega,by omega⟩⟩
    have hfit:fG ops∧ops.length*40≤140737488351232:=by
     rcases HC.out with⟨_,h1,_⟩|⟨h0,_⟩
     ·obtain⟨_,_,_,_,h5⟩:=Cm.bu h1
      exact⟨(rD h5).fit,by have:=(Bm.dM h5).2.1;omega⟩
     ·cases h0
    have TK:=hide (aeJ (w.heap.size+1) 0 wc vc rs c0 R3.out.log.r.row.row (by have:=eB R3.out.log.good;have:=R3.out.log.len;omega) ⟨ee,nn,vo,ops⟩ OC.out.is h64.1 h64.2 hfit.1 hfit.2)
    unfold cZ at TK
    simp only at TK
    rw[R3.out.log.is]at TK
    rw[sj.out]at TK
    obtain⟨ans,eT⟩:∃x,tk l ⟨ee,nn,ops⟩=x:=⟨_,rfl⟩
    have HA:=hide eT
    have TK2:Hid (Calls Tryz.prog 168 #[.pointer (some ⟨w.heap.size+1,0,none⟩),.agg #[.int .i64 ee,.int .i64 nn,.slice o2 ops.length k2]] wc fun E w'=>E=.returned (.bool ans)∧Below wc.heap.size wc w'):=hide (by rw[←eT];exact TK.out)
    clear TK eT F c0 c1
    go_wp2_with fail
    refine TK2.out.mono ?_
    rintro E wd ⟨rfl,jP⟩
    have RD:=R3.out.below jP
    have OD:=OC.out.below jP
    have szd:=jP.size
    have y0:=(jP.cell (p:=⟨wb.heap.size,0,none⟩) (show wb.heap.size<wc.heap.size by omega)).trans x0
    have y1:=(jP.cell (p:=⟨wb.heap.size,1,none⟩) (show wb.heap.size<wc.heap.size by omega)).trans x1
    have y2:=(jP.cell (p:=⟨wb.heap.size,2,none⟩) (show wb.heap.size<wc.heap.size by omega)).trans x2
    clear TK2 R3 OC jP x0 x1 x2
    cases ans with
    |false=>
     obtain⟨V,hV,⟨a0,a1⟩,⟨f0,f1⟩,⟨z0,z1⟩,LV,bV⟩:=RD.fin
     have c0:=ai RD.bL 0 rfl
     have c1:=ai RD.bL 1 rfl
     have G:=hide (show Lw w.heap.size V l vc ve rs∧nH rs∧Below w.heap.size w V∧Hid (Wl.Lg 0 0 bs l)from⟨LV,RD.ap,bV,hide (RD.rd.akS R.out HC.out HA.out)⟩)
     clear RD OD LV bV HC HA
     subst mg hve
     go_wp2
     try rw[Exit.noGoto_ret]
     refine bodyPost_ret (v:=.agg #[.slice ac rs.length ak0,.slice ae (ends l).length aki]) (by simp[results,Tryz.results153,go_sem,z0,z1]) rfl ?_
     exact⟨_,_,_,_,rfl,G.out⟩
    |true=>
     obtain⟨g1,g2,g3⟩:=RD.rd.next R.out HC.out HA.out
     have GR:=hide (aee (w.heap.size+2) (w.heap.size+1) 0 152 #[vc,ve] wd l vc ve rs ⟨ee,nn,vo,ops⟩ n RD.bL rfl rfl (by decide) (by decide) (by decide) RD.log (by omega) (OD.bz (by omega)) g1.1 g2)
     unfold cZ at GR
     simp only at GR
     rw[sj.out]at GR
     have hnl:n≤(bs.drop (Wl.aW l).length).length:=by
      obtain⟨_,h2,h3⟩:=HZ.out
      rw[h2]
      exact h3.length_le
     obtain⟨vs,hsl,dC⟩:=HI.out.dP Tryz.lG Tryz.nC n hnl
     have HI2:Hid (Is .u8 w vs (bs.drop (Wl.aW (l++[⟨ee,nn,ops⟩])).length)):=hide (by rw[g3,←List.drop_drop];exact dC)
     have hn1:1≤n:=by rw[g2];exact Wl.lq _
     have c0:=ai RD.bL 0 rfl
     have c1:=ai RD.bL 1 rfl
     have RDH:=hide RD
     have G1:=hide g1
     have HL:lenOf vs<lenOf u0:=by
      obtain⟨_,_,e1,_,_⟩:=dC.shape
      obtain⟨_,_,e2,_,_⟩:=HI.out.shape
      rw[e1,e2]
      simp only[lenOf,List.length_drop]
      rw[List.length_drop]at hnl
      omega
     clear RD OD HC HA R g1 g2 g3 dC hnl
     go_wp2_with fail
     refine GR.out.mono ?_
     rintro E wf ⟨rfl,vc2,ve2,bf,Lf,of,_⟩
     have szf:=of.size
     rw[←sj.out]at Lf
     have RF:=hide (RDH.out.grow (c:=⟨ee,nn,vo,ops⟩) G1.out ⟨_,BA.out⟩ (by simpa using bf) Lf of)
     clear GR bf Lf of
     go_wp2
     go_roundw
     case rel=>exact⟨_,_,_,_,RF,HI2,by omega⟩
     case measure=>exact HL
   ·obtain⟨V,hV,⟨a0,a1⟩,⟨f0,f1⟩,⟨z0,z1⟩,LV,bV⟩:=F.out
    have G:=hide (show Lw w.heap.size V l vc ve rs∧nH rs∧Below w.heap.size w V∧Hid (Wl.Lg 0 0 bs l)from⟨LV,R3.out.ap,bV,hide (R3.out.rd.akG R.out HC.out)⟩)
    clear LV bV R3 HC F OC
    subst mg hve
    go_wp2
    try rw[Exit.noGoto_ret]
    refine bodyPost_ret (v:=.agg #[.slice ac rs.length ak0,.slice ae (ends l).length aki]) (by simp[results,Tryz.results153,go_sem,z0,z1]) rfl ?_
    exact⟨_,_,_,_,rfl,G.out⟩
  ·obtain⟨V,hV,⟨a0,a1⟩,⟨f0,f1⟩,⟨z0,z1⟩,LV,bV⟩:=RA.out.fin
   have c0:=ai RA.out.bL 0 rfl
   have c1:=ai RA.out.bL 1 rfl
   obtain⟨ac,ak0,mg,_,_⟩:=RA.out.log.r.row.row.shape
   obtain⟨ae,aki,hve,_,_⟩:=RA.out.log.r.en.is.shape
   have G:=hide (show Lw w.heap.size V l vc ve rs∧nH rs∧Below w.heap.size w V∧Hid (Wl.Lg 0 0 bs l)from⟨LV,RA.out.ap,bV,hide (RA.out.rd.stop R.out)⟩)
   clear LV bV RA bJ ax R
   subst mg hve
   go_wp2
   try rw[Exit.noGoto_ret]
   refine bodyPost_ret (v:=.agg #[.slice ac rs.length ak0,.slice ae (ends l).length aki]) (by simp[results,Tryz.results153,go_sem,z0,z1]) rfl ?_
   exact⟨_,_,_,_,rfl,G.out⟩
end Go.Proofs.YtpifdeoepppadaaGreatDoor
