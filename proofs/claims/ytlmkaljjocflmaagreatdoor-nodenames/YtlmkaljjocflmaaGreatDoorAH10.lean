/- Texts of one layer, one behind the other. -/
import Derived.Test.YtlmkaljjocflmaaGreatDoorAH6
import Derived.Test.YtlmkaljjocflmaaGreatDoorAH2
import Derived.Test.YtlmkaljjocflmaaGreatDoorAH9
import Derived.Test.YtlmkaljjocflmaaGreatDoorAH19
import Derived.BigQuiet
import Derived.Test.YtlmkaljjocflmaaGreatDoorAH1
import Derived.Deep.RegionLaw
import Derived.Deep.RegionHeld3
set_option maxRecDepth 100000
set_option maxHeartbeats 8000000
namespace Go.Proofs.YtlmkaljjocflmaaGreatDoor
open Go.RowKit
open Bm (Ov)
set_option linter.unusedVariables false
theorem Tryz.ak1:Tryz.prog.underlying 61=some (.slice (Tryz.prog.elem 61)):=by kernel_rfl
theorem Tryz.alB (wx:World):(sizeOf (Tryz.prog.elem 61)).run Tryz.prog wx=.ok 1 wx:=by kernel_rfl
theorem arx {V:World}{R:Nat}{t:TypeId}{cs:Array Value}(hR:V.heap[R]? =some (.cells cs t (0,0)))(j:Nat)(u:Value):
  ∃V',V.setCell ⟨R,j,none⟩ u=V'∧V'.heap[R]? =some (.cells (cs.setIfInBounds j u) t (0,0))∧V.grownBy V' (some R)∧V.frozen? ⟨R,j,none⟩=false:=
 ⟨_,rfl,aG hR j u,ax _ _ _,aB hR j⟩
def Nr (bs:List Int) (x y m k a:Nat):Prop:=match k with
 |0=>a=0
 |1=>Vm.enc x<+:bs∧a=Vm.sz x∧x≤1048576
 |2=>Vm.enc x<+:bs∧Vm.enc y<+:bs.drop (Vm.sz x)∧a=Vm.sz x+Vm.sz y∧x≤1048576∧y≤1048576
 |_=>Vm.enc x<+:bs∧Vm.enc y<+:bs.drop (Vm.sz x)∧Vm.enc m<+:bs.drop (Vm.sz x+Vm.sz y)∧a=Vm.sz x+Vm.sz y+Vm.sz m∧x≤1048576∧y≤1048576∧m≤1048576
structure RdO (bs:List Int) (w wr:World) (x y m a:Nat) (v:Value) (l:List Ov):Prop where
 blk:wr.heap[w.heap.size]? =some (.cells #[.int .i64 x,.int .i64 y,v] 273 (0,0))
 own:bu 71 (w.heap.size+2) wr v l
 aK:Below w.heap.size w wr
 sz:w.heap.size+2≤wr.heap.size
 nr:Nr bs x y m 3 (Vm.sz x+Vm.sz y+Vm.sz m)
 iq:Rn.iq l<+:bs.drop (Vm.sz x+Vm.sz y+Vm.sz m)
 ok:∀o∈l,o.c=0
 a:a=Vm.sz x+Vm.sz y+Vm.sz m+(Rn.iq l).length
end Go.Proofs.YtlmkaljjocflmaaGreatDoor
namespace Go.Proofs.YtlmkaljjocflmaaGreatDoor
open Go.RowKit
set_option linter.unusedVariables false
theorem kM (b o:Nat)(w:World)(vc:Value)(rs:List Cw)(hc:w.cell? ⟨b,o,none⟩=some vc)(h:dU w vc rs):
  Calls Tryz.prog 139 #[.pointer (some ⟨b,o,none⟩)] w fun E w'=>E=.returned (.int .i64 rs.length)∧w=w':=by
 obtain⟨ao,cap,rfl,_,_⟩:=h.shape
 clear h
 go_enter Tryz.func139,Tryz.ntmps139
 go_wp2
 go_ret
 exact⟨rfl,rfl⟩
theorem af7 {l:List Cm.Cv}{k:Nat}{c:Cm.Cv}(hk:l[k]? =some c)(hl:l.length=k+1)(e:Int):Cm.lastE e l=c.e:=by
 rcases List.eq_nil_or_concat l with rfl|⟨r,d,rfl⟩
 ·simp at hk
 ·rw[List.concat_eq_append]at hk hl⊢
  rw[List.length_append,List.length_singleton]at hl
  obtain rfl:r.length=k:=by omega
  rw[(Cm.iF r d e 0).1]
  simp at hk
  rw[hk]
theorem aaM (b o:Nat)(w:World)(vc:Value)(rs:List Cw)(hc:w.cell? ⟨b,o,none⟩=some vc)(h:dU w vc rs)(hl:rs.length≤1048576):
  Calls Tryz.prog 182 #[.pointer (some ⟨b,o,none⟩)] w fun E w'=>E=.returned (.int .i64 (Cm.lastE 0 (aH rs)))∧∃m,w'=w.drewN m:=by
 have HE:=hide (kM b o w vc rs hc h)
 by_cases h0:rs.length=0
 ·have hr:rs=[]:=List.eq_nil_of_length_eq_zero h0
  subst hr
  clear h
  go_enter Tryz.func182,Tryz.ntmps182
  go_wp2_with fail
  refine HE.out.mono ?_
  rintro E w1 ⟨rfl,rfl⟩
  go_wp2
  go_ret
  exact⟨rfl,0,rfl⟩
 ·obtain⟨k,hk⟩:∃k,rs.length=k+1:=⟨rs.length-1,by omega⟩
  have HEq:Hid (∀n,Calls Tryz.prog 139 #[.pointer (some ⟨b,o,none⟩)] (w.drewN n) fun E w'=>E=.returned (.int .i64 rs.length)∧∃m,w'=(w.drewN n).drewN m):=hide fun n=>
   (kM b o (w.drewN n) vc rs hc (h.below (below_drewN (Below.refl _ _) n))).mono fun E w' h=>⟨h.1,0,by rw[←h.2];rfl⟩
  obtain⟨g,off,cap,rfl,_,_,_,hcell⟩:=h.full (by omega)
  obtain⟨c,hck⟩:∃c,rs[k]? =some c:=⟨rs[k]'(by omega),by rw[List.getElem?_eq_getElem]⟩
  obtain⟨c0,_,_⟩:=hcell k c hck
  have hL:Cm.lastE 0 (aH rs)=c.e:=af7 (k:=k) (c:=c.c) (by unfold aH;rw[List.getElem?_map,hck];rfl) (by unfold aH;rw[List.length_map];exact hk) 0
  rw[hL]
  rw[hk]at HE HEq hc
  have hne:(((k+1:Nat):Int)==0)=false:=by simp;omega
  have hw:IntKind.i64.wrap (((k+1:Nat):Int)-1)=(k:Int):=by rw[aS _ (by omega) (by omega)];omega
  have hk1:(k:Int)<((k+1:Nat):Int):=by omega
  clear h hcell hck hL
  go_enter Tryz.func182,Tryz.ntmps182
  go_wp2_with fail
  refine HE.out.mono ?_
  rintro E w1 ⟨rfl,rfl⟩
  go_wp2
  go_quiet ((go_at_call 139;refine Calls.quiet_of (HEq.out _)))
  go_wp2
  go_ret
  exact⟨rfl,_,rfl⟩
theorem aav (b o:Nat)(w:World)(ve:Value)(l:List Cm.Cv)(n:Nat)(hn:n≤l.length)(hl:l.length≤1048576)(hc:w.cell? ⟨b,o+1,none⟩=some ve)(h:Is .i64 w ve (ends l)):
  Calls Tryz.prog 294 #[.pointer (some ⟨b,o,none⟩),.int .i64 n] w fun E w'=>E=.returned (.int .i64 (Wl.bD (l.take n)).length)∧w=w':=by
 by_cases h0:n=0
 ·subst h0
  clear h
  go_enter Tryz.func294,Tryz.ntmps294
  go_wp2
  go_ret
  exact⟨rfl,rfl⟩
 ·obtain⟨k,rfl⟩:∃k,n=k+1:=⟨n-1,by omega⟩
  obtain⟨g,off,cap,rfl,_,_,_,hcell⟩:=h.full (by rw[sG];omega)
  have c0:=hcell k (by rw[sG];omega)
  rw[arG l k (by omega)]at c0
  rw[sG]at hc
  have hne:(((k+1:Nat):Int)==0)=false:=by simp;omega
  have hw:IntKind.i64.wrap (((k+1:Nat):Int)-1)=(k:Int):=by rw[aS _ (by omega) (by omega)];omega
  have hk1:(k:Int)<(l.length:Int):=by omega
  generalize ((Wl.bD (List.take (k+1) l)).length:Int)=z at*
  clear h hcell
  go_enter Tryz.func294,Tryz.ntmps294
  go_wp2
  go_ret
  exact⟨rfl,rfl⟩
def tk (l:List Cm.Cv) (c:Cm.Cv):Bool:=decide (Cm.chk c.e c.n c.l=0∧¬(c.n-1≠l.length∨c.e<Cm.lastE 0 l))
theorem aul (l:List Cm.Cv)(c:Cm.Cv):tk l c=(((Cm.fol (Cm.lastE 0 l) l.length 0 [c]).1==0)&&((Cm.fol (Cm.lastE 0 l) l.length 0 [c]).2==0)):=by
 unfold tk
 by_cases h1:Cm.chk c.e c.n c.l=0
 ·by_cases h2:c.n-1≠l.length∨c.e<Cm.lastE 0 l
  ·rw[Cm.wU h1 h2,decide_eq_false (fun h=>h.2 h2)]
   rfl
  ·rw[Cm.zF h1 h2,decide_eq_true ⟨h1,h2⟩]
   rfl
 ·rw[Cm.wL h1,decide_eq_false (fun h=>h1 h.1)]
  simp[h1]
theorem arf {l:List Cm.Cv}(h:Cm.Good 0 0 l)(c:Cm.Cv):tk l c=true↔Cm.Good 0 0 (l++[c]):=by
 unfold tk
 rw[decide_eq_true_iff,Wl.abU h]
theorem Tryz.awD (a b c d:Int)(w:World):(binOp .eql 31 (.agg #[.int .i64 a,.int .i64 b]) (.agg #[.int .i64 c,.int .i64 d])).run Tryz.prog w=.ok (.bool ((a==c)&&(b==d))) w:=by
 rw[run_eql_struct,run_equalIn_agg w 9999 31 _ _ (by kernel_rfl) (by kernel_rfl)]
 unfold Program.fieldsOf
 rw[Tryz.underlying31]
 simp[Op.eqFields,go_sem,Tryz.underlying29,Tryz.underlying3]
 by_cases h1:a=c<;>by_cases h2:b=d<;>simp[h1,h2]
theorem nA (p q:Nat)(w:World)(cs:Array Value)(u1 u2 u3:Value)(hB:w.heap[p]? =some (.cells #[.pointer (some ⟨q,0,none⟩),u1,u2,u3] 196 (0,0))):
  Calls Tryz.prog 138 #[.pointer (some ⟨p,0,none⟩)] w fun E w'=>E=.returned (.bool true)∧w=w':=by
 have c0:=ai hB 0 rfl
 clear hB
 go_enter Tryz.func138,Tryz.ntmps138
 go_wp2
 go_ret
 exact⟨rfl,rfl⟩
theorem zg:∀(r:List Cw),ccells r=gcells jh r
 |[]=>rfl
 |c::r=>by rw[ccells,gcells,zg r]
theorem ak8 {e base:Nat}{w:World}{v:Value}{r:List Cw}:bK e base w v r↔dI jh 3 e base w v r:=by
 unfold bK dI
 rw[zg]
theorem abV (c:Cw):(jh c).length=3:=rfl
theorem Tryz.info3:(Tryz.prog.info? 3).map (fun i=>(i.zero,i.size,i.bytes))=some (some (.int .i64 0),1,8):=by kernel_rfl
section
variable {base b o:Nat} {t:TypeId} {cs:Array Value} {W:World} {vc ve:Value} {rs:List Cw} {zs:List Int}
theorem akc (hB:W.heap[b]? =some (.cells cs t (0,0)))(ho:cs[o+1]? =some ve)(h1:t≠35)(h2:t≠3)(h3:t≠71)(h:Lr base W vc ve rs zs)(hl:zs.length≤1048576)(hbase:base≤W.heap.size)(x:Int)(hx:(Lit.int .i64 x).wf=true):
  ∃V,W.drew.alloc (.cells #[.int .i64 x] 3)=V∧V.cell? ⟨b,o+1,none⟩=some ve∧Hid (∀ty,∃v' w',(Builtin.append_ #[173,173] ty #[ve,.slice (some ⟨W.heap.size,0,none⟩) 1 1]).run Tryz.prog V=.ok v' w'∧
   ((∃U,w'.setCell ⟨b,o+1,none⟩ v'=U∧U.heap[b]? =some (.cells (cs.setIfInBounds (o+1) v') t (0,0))∧Lr base U vc v' rs (zs++[x])∧Out (fun g=>g=b∨ve.ownBlock=some g) W U∧(v'.ownBlock=ve.ownBlock∨∃g,v'.ownBlock=some g∧W.heap.size≤g))∧w'.cell? ⟨b,o+1,none⟩=some ve∧w'.frozen? ⟨b,o+1,none⟩=false∧∃a n c,v'=.slice a n c)):=by
 obtain⟨V,hV,jE,aX,own⟩:=jQ .i64 3 W.drew #[.int .i64 x] 1 [x] rfl rfl (by simp[maxLen]) (by simpa using hx)
 have aK:Below W.heap.size W V:=(below_drewN (Below.refl W.heap.size W) 1).trans aX
 have hbw:b<W.heap.size:=aA hB
 have hBV:V.heap[b]? =some (.cells cs t (0,0)):=(aK.block b hbw).trans hB
 refine⟨V,hV,ai hBV (o+1) ho,hide fun ty=>?_⟩
 have hV':=h.below aK
 have awt:V.heap.size=W.heap.size+1:=jE
 obtain⟨v',w',hr,hown,hg,hat⟩:=ig (P:=Tryz.prog) (w:=V) 173 ty .i64 3 base 8 Tryz.underlying173 Tryz.info3 (by decide) ve zs hV'.en _ [x] own.is (by simp;omega) (by omega)
 have hne:∀g,ve.ownBlock=some g→g≠b:=fun g hg e=>h.ne hB h1 h2 h3 (.inr (.inl (e▸hg)))
 have hBw:w'.heap[b]? =some (.cells cs t (0,0)):=(hg.block b (by omega) fun e=>hne b e.symm rfl).trans hBV
 obtain⟨U,hU⟩:∃U,w'.setCell ⟨b,o+1,none⟩ v'=U:=⟨_,rfl⟩
 have oU:Out (fun g=>g=b) w' U:=by
  rw[←hU]
  exact Out.aP (ax w' ⟨b,o+1,none⟩ _) fun g hg=>by simp at hg;exact hg.symm
 have oA:Out (fun g=>g=b∨ve.ownBlock=some g) W w':=(Out.of_below (F:=fun g=>g=b∨ve.ownBlock=some g) aK).trans (Out.aP (F:=fun g=>g=b∨ve.ownBlock=some g) hg fun g hg=>.inr hg) fun g hg=>.inl hg
 have oW:Out (fun g=>g=b∨ve.ownBlock=some g) W U:=oA.trans oU fun g hg=>.inl (.inl hg)
 have nvc:∀g,vc.ownBlock=some g→ve.ownBlock≠some g:=fun g hg he=>by
  obtain⟨c1,e1⟩:=h.row.type hg
  obtain⟨c2,e2⟩:=h.en.type he
  rw[e1]at e2
  simp only[Option.some.injEq,Obj.cells.injEq]at e2
  exact absurd e2.2.1 (by decide)
 have nop:∀c∈rs,∀g,c.v.ownBlock=some g→ve.ownBlock≠some g:=fun c hc g hg he=>by
  obtain⟨c1,e1⟩:=(h.kr c hc).type hg
  obtain⟨c2,e2⟩:=h.en.type he
  rw[e1]at e2
  simp only[Option.some.injEq,Obj.cells.injEq]at e2
  exact absurd e2.2.1 (by decide)
 refine⟨v',w',hr,⟨U,hU,by rw[←hU,aG hBw],⟨?_,?_,?_⟩,oW,?_⟩,ai hBw (o+1) ho,aB hBw (o+1),hown.is.form⟩
 ·refine dw h.row fun g hg=>oW.block g (World.ownsRow.lt h.row g hg).2 fun e=>?_
  rcases e with e|e
  ·exact h.ne hB h1 h2 h3 (.inl (e▸hg))
  ·exact nvc g hg e
 ·intro c hc
  refine dw (h.kr c hc) fun g hg=>oW.block g ((h.kr c hc).block g hg).2 fun e=>?_
  rcases e with e|e
  ·exact h.ne hB h1 h2 h3 (.inr (.inr ⟨c,hc,e▸hg⟩))
  ·exact nop c hc g hg e
 ·refine hown.agree fun g hg=>oU.block g (hown.block g hg).2 fun e=>?_
  obtain⟨c1,e1⟩:=hown.type hg
  rw[e,hBw]at e1
  simp only[Option.some.injEq,Obj.cells.injEq]at e1
  exact h2 e1.2.1
 ·rcases hat with e|e
  ·exact .inl e
  ·exact .inr ⟨_,e,by omega⟩
theorem akp (hB:W.heap[b]? =some (.cells cs t (0,0)))(ho:cs[o]? =some vc)(h1:t≠35)(h2:t≠3)(h3:t≠71)(h:Lr base W vc ve rs zs)(hl:rs.length≤1048576)(hbase:base≤W.heap.size)(c:Cw)(hc:bu 71 base W c.v c.l):
  ∃V,W.drew.alloc (.cells #[.int .i64 c.e,.int .i64 c.n,c.v] 35)=V∧V.cell? ⟨b,o,none⟩=some vc∧Hid (∀ty,∃v' w',(Builtin.append_ #[22,22] ty #[vc,.slice (some ⟨W.heap.size,0,none⟩) 1 1]).run Tryz.prog V=.ok v' w'∧
   ((∃U,w'.setCell ⟨b,o,none⟩ v'=U∧U.heap[b]? =some (.cells (cs.setIfInBounds o v') t (0,0))∧Lr base U v' ve (rs++[c]) zs∧Out (fun g=>g=b∨vc.ownBlock=some g) W U∧(v'.ownBlock=vc.ownBlock∨∃g,v'.ownBlock=some g∧W.heap.size≤g))∧w'.cell? ⟨b,o,none⟩=some vc∧w'.frozen? ⟨b,o,none⟩=false∧∃a n c,v'=.slice a n c)):=by
 obtain⟨V,hV,jE,aX,own⟩:=qi jh 3 abV 35 W.drew #[.int .i64 c.e,.int .i64 c.n,c.v] 1 [c] rfl rfl (by simp[maxLen])
 have aK:Below W.heap.size W V:=(below_drewN (Below.refl W.heap.size W) 1).trans aX
 have hbw:b<W.heap.size:=aA hB
 have hBV:V.heap[b]? =some (.cells cs t (0,0)):=(aK.block b hbw).trans hB
 refine⟨V,hV,ai hBV o ho,hide fun ty=>?_⟩
 have hV':=h.below aK
 have awt:V.heap.size=W.heap.size+1:=jE
 obtain⟨v',w',hr,hown,hg,hat⟩:=mK (P:=Tryz.prog) (w:=V) 22 ty jh 3 40 abV (by decide) (by decide) (.agg #[.int .i64 0,.int .i64 0,.slice none 0 0]) rfl 35 base Tryz.underlying22 Tryz.aaF vc rs (ak8.1 hV'.row) _ [c] own.row (by
  rw[←zg]
  exact ky [c] fun d hd=>by rw[List.mem_singleton.1 hd];exact hc.is.one) (by simp;omega) (by omega)
 have hne:∀g,vc.ownBlock=some g→g≠b:=fun g hg e=>h.ne hB h1 h2 h3 (.inl (e▸hg))
 have hBw:w'.heap[b]? =some (.cells cs t (0,0)):=(hg.block b (by omega) fun e=>hne b e.symm rfl).trans hBV
 obtain⟨U,hU⟩:∃U,w'.setCell ⟨b,o,none⟩ v'=U:=⟨_,rfl⟩
 have oU:Out (fun g=>g=b) w' U:=by
  rw[←hU]
  exact Out.aP (ax w' ⟨b,o,none⟩ _) fun g hg=>by simp at hg;exact hg.symm
 have oA:Out (fun g=>g=b∨vc.ownBlock=some g) W w':=(Out.of_below (F:=fun g=>g=b∨vc.ownBlock=some g) aK).trans (Out.aP (F:=fun g=>g=b∨vc.ownBlock=some g) hg fun g hg=>.inr hg) fun g hg=>.inl hg
 have oW:Out (fun g=>g=b∨vc.ownBlock=some g) W U:=oA.trans oU fun g hg=>.inl (.inl hg)
 have nve:∀g,ve.ownBlock=some g→vc.ownBlock≠some g:=fun g hg he=>by
  obtain⟨c1,e1⟩:=h.en.type hg
  obtain⟨c2,e2⟩:=h.row.type he
  rw[e1]at e2
  simp only[Option.some.injEq,Obj.cells.injEq]at e2
  exact absurd e2.2.1 (by decide)
 have opb:∀d:Cw,bu 71 base W d.v d.l→bu 71 base U d.v d.l:=fun d hd=>by
  refine dw hd fun g hg=>oW.block g (bu.block hd g hg).2 fun e=>?_
  obtain⟨c1,e1⟩:=hd.type hg
  rcases e with e|e
  ·rw[e,hB]at e1
   simp only[Option.some.injEq,Obj.cells.injEq]at e1
   exact h3 e1.2.1
  ·obtain⟨c2,e2⟩:=h.row.type e
   rw[e1]at e2
   simp only[Option.some.injEq,Obj.cells.injEq]at e2
   exact absurd e2.2.1 (by decide)
 obtain⟨xa,xc,hv',_⟩:=hown.row.shape
 refine⟨v',w',hr,⟨U,hU,by rw[←hU,aG hBw],⟨?_,?_,?_⟩,oW,?_⟩,ai hBw o ho,aB hBw o,xa,_,xc,hv'⟩
 ·refine ak8.2 (hown.agree fun g hg=>oU.block g (hown.lt g hg).2 fun e=>?_)
  obtain⟨c1,e1⟩:=hown.type hg
  rw[e,hBw]at e1
  simp only[Option.some.injEq,Obj.cells.injEq]at e1
  exact h1 e1.2.1
 ·intro d hd
  rcases List.mem_append.1 hd with hd|hd
  ·exact opb d (h.kr d hd)
  ·rw[List.mem_singleton.1 hd]
   exact opb c hc
 ·refine h.en.agree fun g hg=>oW.block g (h.en.block g hg).2 fun e=>?_
  rcases e with e|e
  ·exact h.ne hB h1 h2 h3 (.inr (.inl (e▸hg)))
  ·exact nve g hg e
 ·rcases hat with e|e
  ·exact .inl e
  ·exact .inr ⟨_,e,by omega⟩
end
end Go.Proofs.YtlmkaljjocflmaaGreatDoor
namespace Go.Proofs.YtlmkaljjocflmaaGreatDoor
set_option linter.unusedVariables false
def Rdl (bs:List Int) (l:List Cm.Cv):Prop:=Cm.Good 0 0 l∧Wl.bD l<+:bs
end Go.Proofs.YtlmkaljjocflmaaGreatDoor
namespace Go.Proofs.YtlmkaljjocflmaaGreatDoor
open Go.RowKit
set_option linter.unusedVariables false
theorem Tryz.ajw:∀args w,(callFunc 139 args).run Tryz.prog w=.ok (.enter 139 args) w:=enters_of Tryz.func139 (by kernel_rfl) rfl
theorem Tryz.ajF:∀args w,(callFunc 294 args).run Tryz.prog w=.ok (.enter 294 args) w:=enters_of Tryz.func294 (by kernel_rfl) rfl
theorem ai8 (b o:Nat)(w:World)(vc:Value)(rs:List Cw)(hc:w.cell? ⟨b,o,none⟩=some vc)(h:dU w vc rs)(hl:rs.length≤1048576)(c:Cw)(hi:dz w c.v c.l)(he:In64 c.e)(hn:In64 c.n)(hf:fZ c.l)(hlo:c.l.length*40≤140737488351232):
  Calls Tryz.prog 243 #[.pointer (some ⟨b,o,none⟩),dF c.e c.n c.v] w fun E w'=>E=.returned (.bool (tk (aH rs) c.c))∧Below w.heap.size w w':=by
 obtain⟨ao,cap,hv,_,_⟩:=hi.shape
 obtain⟨w1,hw1,aT,ak,hB⟩:=au w #[.int .i64 c.e,.int .i64 c.n,c.v] 35
 have c0:w1.cell? ⟨w.heap.size,0,none⟩=some (.int .i64 c.e):=ai hB 0 rfl
 have c1:w1.cell? ⟨w.heap.size,1,none⟩=some (.int .i64 c.n):=ai hB 1 rfl
 have c2:w1.cell? ⟨w.heap.size,2,none⟩=some c.v:=ai hB 2 rfl
 have hbw:b<w.heap.size:=World.block_lt_of_cell? _ _ hc
 have hK:∀W,Below w1.heap.size w1 W→Below w.heap.size w W:=fun W hb=>ak.trans (hb.mono ak.size)
 have hS:∀W,Below w1.heap.size w1 W→W.cell? ⟨w.heap.size,0,none⟩=some (.int .i64 c.e)∧W.cell? ⟨w.heap.size,1,none⟩=some (.int .i64 c.n)∧W.cell? ⟨w.heap.size,2,none⟩=some c.v:=fun W hb=>
  ⟨(hb.cell (p:=⟨w.heap.size,0,none⟩) (show w.heap.size<w1.heap.size by omega)).trans c0,(hb.cell (p:=⟨w.heap.size,1,none⟩) (show w.heap.size<w1.heap.size by omega)).trans c1,(hb.cell (p:=⟨w.heap.size,2,none⟩) (show w.heap.size<w1.heap.size by omega)).trans c2⟩
 have HE:Hid (∀W,Below w1.heap.size w1 W→Calls Tryz.prog 182 #[.pointer (some ⟨b,o,none⟩)] W fun E w'=>E=.returned (.int .i64 (Cm.lastE 0 (aH rs)))∧Below W.heap.size W w'∧Below w1.heap.size w1 w'∧w'.cell? ⟨w.heap.size,0,none⟩=some (.int .i64 c.e)∧w'.cell? ⟨w.heap.size,1,none⟩=some (.int .i64 c.n)∧w'.cell? ⟨w.heap.size,2,none⟩=some c.v):=hide fun W hb=>by
  refine(aaM b o W vc rs (((hK W hb).cell (p:=⟨b,o,none⟩) hbw).trans hc) (h.below (hK W hb)) hl).mono ?_
  rintro E w' ⟨rfl,m,rfl⟩
  exact⟨rfl,below_drewN (Below.refl _ _) m,below_drewN hb m,hS _ (below_drewN hb m)⟩
 have HN:Hid (∀W,Below w1.heap.size w1 W→Calls Tryz.prog 139 #[.pointer (some ⟨b,o,none⟩)] W fun E w'=>E=.returned (.int .i64 rs.length)∧W=w'):=hide fun W hb=>
  kM b o W vc rs (((hK W hb).cell (p:=⟨b,o,none⟩) hbw).trans hc) (h.below (hK W hb))
 have hcl:(aH rs).length=rs.length:=dE rs
 obtain⟨fe,fp,aov⟩:∃fe fp,Cm.fol (Cm.lastE 0 (aH rs)) rs.length 0 [c.c]=(fe,fp):=⟨_,_,rfl⟩
 have HT:Hid (tk (aH rs) c.c=((fe==0)&&(fp==0))):=hide (by rw[aul,hcl,aov])
 have HF:Hid (∀W v,Below w1.heap.size w1 W→dU W v [c]→Calls Tryz.prog 10 #[.int .i64 (Cm.lastE 0 (aH rs)),.int .i64 rs.length,v] W fun E w'=>E=.returned (.agg #[.int .i64 fe,.int .i64 fp])∧Below w1.heap.size w1 w'∧w'.cell? ⟨w.heap.size,0,none⟩=some (.int .i64 c.e)∧w'.cell? ⟨w.heap.size,1,none⟩=some (.int .i64 c.n)∧w'.cell? ⟨w.heap.size,2,none⟩=some c.v):=hide fun W v hb hr=>by
  have hx:=oJ (Cm.lastE 0 (aH rs)) rs.length v [c] W ⟨hr,fun d hd=>by rw[List.mem_singleton.1 hd];exact⟨hi.below (hK W hb),he,hn⟩⟩ (fun d hd=>by rw[List.mem_singleton.1 hd];exact⟨hf,hlo⟩) (by simp)
  rw[show aH [c]=[c.c]from rfl,aov]at hx
  refine hx.mono ?_
  rintro E w' ⟨rfl,hb'⟩
  have hb2:=hb.trans (hb'.mono hb.size)
  exact⟨rfl,hb2,hS _ hb2⟩
 have hrow:Hid (∀W,∃V,W.alloc (.cells #[.int .i64 c.e,.int .i64 c.n,c.v] 35)=V∧Below W.heap.size W V∧dU V (.slice (some ⟨W.heap.size,0,none⟩) 1 1) [c]):=hide fun W=>by
  obtain⟨V,hV,_,bV,oV⟩:=mZ 35 W #[.int .i64 c.e,.int .i64 c.n,c.v] 1 [c] rfl rfl (by simp[maxLen])
  exact⟨V,hV,bV,oV.row⟩
 obtain⟨wA,nQ,iU,atG⟩:=hrow.out w1.drew
 have b1A:Below w1.heap.size w1 wA:=(Below.refl w1.heap.size w1).drew.trans iU
 obtain⟨a0,a1,a2⟩:=hS wA b1A
 have HS:=hide hS
 have RA:Hid (dU wA (.slice (some ⟨w.heap.size+1,0,none⟩) 1 1) [c]):=hide (by rw[←aT];exact atG)
 have b11:Below w1.heap.size w1 w1.drew:=(Below.refl w1.heap.size w1).drew
 have q1:=Tryz.awD fe fp 0 0
 have q2:=Tryz.vE .eql
 unfold dF
 rw[hv]at c2 a2 hw1 nQ HE HF HS hrow⊢
 generalize Cm.lastE 0 (aH rs)=ep at*
 rw[HT.out]
 have FIN:Hid (∀W,Below w1.heap.size w1 W→Below w.heap.size w W):=hide hK
 clear hc h hi he hn hf hlo hB aov hv hcl hK hS atG iU
 go_enter Tryz.func243,Tryz.ntmps243
 go_wp2_with fail
 go_region_held3 (fun w'=>w'.cell? ⟨w.heap.size,0,none⟩=some (.int .i64 c.e)∧w'.cell? ⟨w.heap.size,1,none⟩=some (.int .i64 c.n)∧w'.cell? ⟨w.heap.size,2,none⟩=some (.slice ao c.l.length cap)) (first|exact⟨c0,c1,c2⟩|exact⟨a0,a1,a2⟩|exact⟨d0,d1,d2⟩|exact⟨e0,e1,e2⟩|exact⟨i0,i1,i2⟩|go_keep)
  (first
  |(go_at_call 182;refine(HE.out _ (by first|exact b11|exact b1A)).mono ?_;rintro E w2 ⟨rfl,az,b12,d0,d1,d2⟩;first|(have ahm:=hide (RA.out.below az))|skip;obtain⟨w4,hw4,aL,abo⟩:=hrow.out w2;have b14:=b12.trans (aL.mono b12.size);obtain⟨e0,e1,e2⟩:=HS.out w4 b14;have abo:=hide abo;clear az aL)
  |(go_at_call 139;refine(HN.out _ (by first|exact b12|exact b14)).mono ?_;rintro E w3 ⟨rfl,rfl⟩)
  |(go_at_call 10;refine(HF.out _ _ (by first|exact b14|exact b12) (by first|exact abo.out|exact ahm.out)).mono ?_;rintro E w5 ⟨rfl,b15,i0,i1,i2⟩))
 all_goals
  go_wp2
  go_ret
  exact⟨rfl,FIN.out _ b15⟩
end Go.Proofs.YtlmkaljjocflmaaGreatDoor
