/- Texts. -/
import Derived.Test.YtlmkaljjocflmaaGreatDoorBH4
import Derived.Test.YtlmkaljjocflmaaGreatDoorBH2
import Derived.Test.YtlmkaljjocflmaaGreatDoorBH8
import Derived.Test.YtlmkaljjocflmaaGreatDoorBH18
import Derived.Test.YtlmkaljjocflmaaGreatDoorBH1
import Derived.Deep.RegionLaw
import Derived.Deep.RegionHeld3
import Derived.Test.YtlmkaljjocflmaaGreatDoorBG2
import Derived.Test.YtlmkaljjocflmaaGreatDoorBH19
import Derived.Test.YtlmkaljjocflmaaGreatDoorBH25
import Derived.Test.YtlmkaljjocflmaaGreatDoorBH20
set_option maxRecDepth 100000
set_option maxHeartbeats 8000000
set_option linter.unusedVariables false
open Go.Proofs.Tryz
namespace Go.Proofs.YtlmkaljjocflmaaGreatDoor
open Go.RowKit
open Bm (Ov)
theorem Tryz.ak8:prog.underlying 61=some (.slice (prog.elem 61)):=by kernel_rfl
theorem Tryz.amo (wx:World):(sizeOf (prog.elem 61)).run prog wx=.ok 1 wx:=by kernel_rfl
theorem zi {V:World}{R:Nat}{t:TypeId}{cs:Array Value}(hR:V.heap[R]? =some (.cells cs t (0,0)))(j:Nat)(u:Value):
  ∃V',V.setCell ⟨R,j,none⟩ u=V'∧V'.heap[R]? =some (.cells (cs.setIfInBounds j u) t (0,0))∧V.grownBy V' (some R)∧V.frozen? ⟨R,j,none⟩=false:=
 ⟨_,rfl,aF hR j u,ax _ _ _,aA hR j⟩
def Nr (bs:List Int) (x y m k a:Nat):Prop:=match k with
 |0=>a=0
 |1=>Vm.enc x<+:bs∧a=Vm.sz x∧x≤1048576
 |2=>Vm.enc x<+:bs∧Vm.enc y<+:bs.drop (Vm.sz x)∧a=Vm.sz x+Vm.sz y∧x≤1048576∧y≤1048576
 |_=>Vm.enc x<+:bs∧Vm.enc y<+:bs.drop (Vm.sz x)∧Vm.enc m<+:bs.drop (Vm.sz x+Vm.sz y)∧a=Vm.sz x+Vm.sz y+Vm.sz m∧x≤1048576∧y≤1048576∧m≤1048576
structure RdO (bs:List Int) (w wr:World) (x y m a:Nat) (v:Value) (l:List Ov):Prop where
 blk:wr.heap[w.heap.size]? =some (.cells #[.int .i64 x,.int .i64 y,v] 273 (0,0))
 own:aT 71 (w.heap.size+2) wr v l
 aI:Below w.heap.size w wr
 sz:w.heap.size+2≤wr.heap.size
 nr:Nr bs x y m 3 (Vm.sz x+Vm.sz y+Vm.sz m)
 jw:Rn.jw l<+:bs.drop (Vm.sz x+Vm.sz y+Vm.sz m)
 ok:∀o∈l,o.c=0
 a:a=Vm.sz x+Vm.sz y+Vm.sz m+(Rn.jw l).length
end Go.Proofs.YtlmkaljjocflmaaGreatDoor
namespace Go.Proofs.YtlmkaljjocflmaaGreatDoor
open Go.RowKit
open Bm (Ov)
theorem azs {l:List Ov}(h:∀o∈l,o.c=0):dZ l:=fun o ho=>by
 obtain⟨_,h2,h3,_⟩:=Om.gU (h o ho)
 have e1:o.k.size=o.k.data.toList.length:=rfl
 have e2:o.v.size=o.v.data.toList.length:=rfl
 have e3:o.kl=o.k.data.toList:=rfl
 have e4:o.vl=o.v.data.toList:=rfl
 rw[e3]at h2
 rw[e4]at h3
 omega
end Go.Proofs.YtlmkaljjocflmaaGreatDoor
namespace Go.Proofs.YtlmkaljjocflmaaGreatDoor
open Go.RowKit
theorem aan:∀(r:List Cw),ccells r=gcells iF r
 |[]=>rfl
 |c::r=>by rw[ccells,gcells,aan r]
theorem amq {e base:Nat}{w:World}{v:Value}{r:List Cw}:bD e base w v r↔eZ iF 3 e base w v r:=by
 unfold bD eZ
 rw[aan]
theorem adW (c:Cw):(iF c).length=3:=rfl
theorem Tryz.info3:(prog.info? 3).map (fun i=>(i.zero,i.size,i.bytes))=some (some (.int .i64 0),1,8):=by kernel_rfl
section
variable {base b o:Nat} {t:TypeId} {cs:Array Value} {W:World} {vc ve:Value} {rs:List Cw} {zs:List Int}
theorem alz (hB:W.heap[b]? =some (.cells cs t (0,0)))(ho:cs[o+1]? =some ve)(h1:t≠35)(h2:t≠3)(h3:t≠71)(h:Lr base W vc ve rs zs)(hl:zs.length≤1048576)(hbase:base≤W.heap.size)(x:Int)(hx:(Lit.int .i64 x).wf=true):
  ∃V,W.drew.alloc (.cells #[.int .i64 x] 3)=V∧V.cell? ⟨b,o+1,none⟩=some ve∧Hid (∀ty,∃v' w',(Builtin.append_ #[173,173] ty #[ve,.slice (some ⟨W.heap.size,0,none⟩) 1 1]).run prog V=.ok v' w'∧
   ((∃U,w'.setCell ⟨b,o+1,none⟩ v'=U∧U.heap[b]? =some (.cells (cs.setIfInBounds (o+1) v') t (0,0))∧Lr base U vc v' rs (zs++[x])∧Out (fun g=>g=b∨ve.ownBlock=some g) W U∧(v'.ownBlock=ve.ownBlock∨∃g,v'.ownBlock=some g∧W.heap.size≤g))∧w'.cell? ⟨b,o+1,none⟩=some ve∧w'.frozen? ⟨b,o+1,none⟩=false∧∃a n c,v'=.slice a n c)):=by
 obtain⟨V,hV,iy,bg,own⟩:=kF .i64 3 W.drew #[.int .i64 x] 1 [x] rfl rfl (by simp[maxLen]) (by simpa using hx)
 have aI:Below W.heap.size W V:=(below_drewN (Below.refl W.heap.size W) 1).trans bg
 have hbw:b<W.heap.size:=ay hB
 have hBV:V.heap[b]? =some (.cells cs t (0,0)):=(aI.block b hbw).trans hB
 refine⟨V,hV,ai hBV (o+1) ho,hide fun ty=>?_⟩
 have hV':=h.below aI
 have az8:V.heap.size=W.heap.size+1:=iy
 obtain⟨v',w',hr,hown,hg,hat⟩:=iL (P:=prog) (w:=V) 173 ty .i64 3 base 8 underlying173 Tryz.info3 (by decide) ve zs hV'.en _ [x] own.is (by simp;omega) (by omega)
 have hne:∀g,ve.ownBlock=some g→g≠b:=fun g hg e=>h.ne hB h1 h2 h3 (.inr (.inl (e▸hg)))
 have hBw:w'.heap[b]? =some (.cells cs t (0,0)):=(hg.block b (by omega) fun e=>hne b e.symm rfl).trans hBV
 obtain⟨U,hU⟩:∃U,w'.setCell ⟨b,o+1,none⟩ v'=U:=⟨_,rfl⟩
 have oU:Out (fun g=>g=b) w' U:=by
  rw[←hU]
  exact Out.aM (ax w' ⟨b,o+1,none⟩ _) fun g hg=>by simp at hg;exact hg.symm
 have oA:Out (fun g=>g=b∨ve.ownBlock=some g) W w':=(Out.of_below (F:=fun g=>g=b∨ve.ownBlock=some g) aI).trans (Out.aM (F:=fun g=>g=b∨ve.ownBlock=some g) hg fun g hg=>.inr hg) fun g hg=>.inl hg
 have oW:Out (fun g=>g=b∨ve.ownBlock=some g) W U:=oA.trans oU fun g hg=>.inl (.inl hg)
 have nvc:∀g,vc.ownBlock=some g→ve.ownBlock≠some g:=fun g hg he=>by
  obtain⟨c1,e1⟩:=h.row.type hg
  obtain⟨c2,e2⟩:=h.en.type he
  rw[e1]at e2
  simp only[Option.some.injEq,Obj.cells.injEq]at e2
  exact absurd e2.2.1 (by decide)
 have nop:∀c∈rs,∀g,c.v.ownBlock=some g→ve.ownBlock≠some g:=fun c hc g hg he=>by
  obtain⟨c1,e1⟩:=(h.iH c hc).type hg
  obtain⟨c2,e2⟩:=h.en.type he
  rw[e1]at e2
  simp only[Option.some.injEq,Obj.cells.injEq]at e2
  exact absurd e2.2.1 (by decide)
 refine⟨v',w',hr,⟨U,hU,by rw[←hU,aF hBw],⟨?_,?_,?_⟩,oW,?_⟩,ai hBw (o+1) ho,aA hBw (o+1),hown.is.form⟩
 ·refine dH h.row fun g hg=>oW.block g (World.ownsRow.lt h.row g hg).2 fun e=>?_
  rcases e with e|e
  ·exact h.ne hB h1 h2 h3 (.inl (e▸hg))
  ·exact nvc g hg e
 ·intro c hc
  refine dH (h.iH c hc) fun g hg=>oW.block g ((h.iH c hc).block g hg).2 fun e=>?_
  rcases e with e|e
  ·exact h.ne hB h1 h2 h3 (.inr (.inr ⟨c,hc,e▸hg⟩))
  ·exact nop c hc g hg e
 ·refine hown.agree fun g hg=>oU.block g (hown.block g hg).2 fun e=>?_
  obtain⟨c1,e1⟩:=hown.type hg
  rw[e,hBw]at e1
  simp only[Option.some.injEq,Obj.cells.injEq]at e1
  exact h2 e1.2.1
 ·rcases hat with e|e
  ·exact .inl e
  ·exact .inr ⟨_,e,by omega⟩
theorem alo (hB:W.heap[b]? =some (.cells cs t (0,0)))(ho:cs[o]? =some vc)(h1:t≠35)(h2:t≠3)(h3:t≠71)(h:Lr base W vc ve rs zs)(hl:rs.length≤1048576)(hbase:base≤W.heap.size)(c:Cw)(hc:aT 71 base W c.v c.l):
  ∃V,W.drew.alloc (.cells #[.int .i64 c.e,.int .i64 c.n,c.v] 35)=V∧V.cell? ⟨b,o,none⟩=some vc∧Hid (∀ty,∃v' w',(Builtin.append_ #[22,22] ty #[vc,.slice (some ⟨W.heap.size,0,none⟩) 1 1]).run prog V=.ok v' w'∧
   ((∃U,w'.setCell ⟨b,o,none⟩ v'=U∧U.heap[b]? =some (.cells (cs.setIfInBounds o v') t (0,0))∧Lr base U v' ve (rs++[c]) zs∧Out (fun g=>g=b∨vc.ownBlock=some g) W U∧(v'.ownBlock=vc.ownBlock∨∃g,v'.ownBlock=some g∧W.heap.size≤g))∧w'.cell? ⟨b,o,none⟩=some vc∧w'.frozen? ⟨b,o,none⟩=false∧∃a n c,v'=.slice a n c)):=by
 obtain⟨V,hV,iy,bg,own⟩:=rE iF 3 adW 35 W.drew #[.int .i64 c.e,.int .i64 c.n,c.v] 1 [c] rfl rfl (by simp[maxLen])
 have aI:Below W.heap.size W V:=(below_drewN (Below.refl W.heap.size W) 1).trans bg
 have hbw:b<W.heap.size:=ay hB
 have hBV:V.heap[b]? =some (.cells cs t (0,0)):=(aI.block b hbw).trans hB
 refine⟨V,hV,ai hBV o ho,hide fun ty=>?_⟩
 have hV':=h.below aI
 have az8:V.heap.size=W.heap.size+1:=iy
 obtain⟨v',w',hr,hown,hg,hat⟩:=oq (P:=prog) (w:=V) 22 ty iF 3 40 adW (by decide) (by decide) (.agg #[.int .i64 0,.int .i64 0,.slice none 0 0]) rfl 35 base underlying22 Tryz.abH vc rs (amq.1 hV'.row) _ [c] own.row (by
  rw[←aan]
  exact kZ [c] fun d hd=>by rw[List.mem_singleton.1 hd];exact hc.is.one) (by simp;omega) (by omega)
 have hne:∀g,vc.ownBlock=some g→g≠b:=fun g hg e=>h.ne hB h1 h2 h3 (.inl (e▸hg))
 have hBw:w'.heap[b]? =some (.cells cs t (0,0)):=(hg.block b (by omega) fun e=>hne b e.symm rfl).trans hBV
 obtain⟨U,hU⟩:∃U,w'.setCell ⟨b,o,none⟩ v'=U:=⟨_,rfl⟩
 have oU:Out (fun g=>g=b) w' U:=by
  rw[←hU]
  exact Out.aM (ax w' ⟨b,o,none⟩ _) fun g hg=>by simp at hg;exact hg.symm
 have oA:Out (fun g=>g=b∨vc.ownBlock=some g) W w':=(Out.of_below (F:=fun g=>g=b∨vc.ownBlock=some g) aI).trans (Out.aM (F:=fun g=>g=b∨vc.ownBlock=some g) hg fun g hg=>.inr hg) fun g hg=>.inl hg
 have oW:Out (fun g=>g=b∨vc.ownBlock=some g) W U:=oA.trans oU fun g hg=>.inl (.inl hg)
 have nve:∀g,ve.ownBlock=some g→vc.ownBlock≠some g:=fun g hg he=>by
  obtain⟨c1,e1⟩:=h.en.type hg
  obtain⟨c2,e2⟩:=h.row.type he
  rw[e1]at e2
  simp only[Option.some.injEq,Obj.cells.injEq]at e2
  exact absurd e2.2.1 (by decide)
 have opb:∀d:Cw,aT 71 base W d.v d.l→aT 71 base U d.v d.l:=fun d hd=>by
  refine dH hd fun g hg=>oW.block g (aT.block hd g hg).2 fun e=>?_
  obtain⟨c1,e1⟩:=hd.type hg
  rcases e with e|e
  ·rw[e,hB]at e1
   simp only[Option.some.injEq,Obj.cells.injEq]at e1
   exact h3 e1.2.1
  ·obtain⟨c2,e2⟩:=h.row.type e
   rw[e1]at e2
   simp only[Option.some.injEq,Obj.cells.injEq]at e2
   exact absurd e2.2.1 (by decide)
 obtain⟨xa,xc,hv',_⟩:=hown.row.shape
 refine⟨v',w',hr,⟨U,hU,by rw[←hU,aF hBw],⟨?_,?_,?_⟩,oW,?_⟩,ai hBw o ho,aA hBw o,xa,_,xc,hv'⟩
 ·refine amq.2 (hown.agree fun g hg=>oU.block g (hown.lt g hg).2 fun e=>?_)
  obtain⟨c1,e1⟩:=hown.type hg
  rw[e,hBw]at e1
  simp only[Option.some.injEq,Obj.cells.injEq]at e1
  exact h1 e1.2.1
 ·intro d hd
  rcases List.mem_append.1 hd with hd|hd
  ·exact opb d (h.iH d hd)
  ·rw[List.mem_singleton.1 hd]
   exact opb c hc
 ·refine h.en.agree fun g hg=>oW.block g (h.en.block g hg).2 fun e=>?_
  rcases e with e|e
  ·exact h.ne hB h1 h2 h3 (.inr (.inl (e▸hg)))
  ·exact nve g hg e
 ·rcases hat with e|e
  ·exact .inl e
  ·exact .inr ⟨_,e,by omega⟩
end
theorem Tryz.amj:∀args w,(callFunc 139 args).run prog w=.ok (.enter 139 args) w:=enters_of func139 (by kernel_rfl) rfl
theorem Tryz.alC:∀args w,(callFunc 294 args).run prog w=.ok (.enter 294 args) w:=enters_of func294 (by kernel_rfl) rfl
theorem anO (b o:Nat)(w:World)(vc:Value)(rs:List Cw)(hc:w.cell? ⟨b,o,none⟩=some vc)(h:eD w vc rs)(hl:rs.length≤1048576)(c:Cw)(hi:bM w c.v c.l)(he:In64 c.e)(hn:In64 c.n)(hf:dZ c.l)(hlo:c.l.length*40≤140737488351232):
  Calls prog 243 #[.pointer (some ⟨b,o,none⟩),cK c.e c.n c.v] w fun E w'=>E=.returned (.bool (tk (aD rs) c.c))∧Below w.heap.size w w':=by
 obtain⟨ao,cap,hv,_,_⟩:=hi.shape
 obtain⟨w1,hw1,aV,aj,hB⟩:=au w #[.int .i64 c.e,.int .i64 c.n,c.v] 35
 have c0:w1.cell? ⟨w.heap.size,0,none⟩=some (.int .i64 c.e):=ai hB 0 rfl
 have c1:w1.cell? ⟨w.heap.size,1,none⟩=some (.int .i64 c.n):=ai hB 1 rfl
 have c2:w1.cell? ⟨w.heap.size,2,none⟩=some c.v:=ai hB 2 rfl
 have hbw:b<w.heap.size:=World.block_lt_of_cell? _ _ hc
 have hK:∀W,Below w1.heap.size w1 W→Below w.heap.size w W:=fun W hb=>aj.trans (hb.mono aj.size)
 have hS:∀W,Below w1.heap.size w1 W→W.cell? ⟨w.heap.size,0,none⟩=some (.int .i64 c.e)∧W.cell? ⟨w.heap.size,1,none⟩=some (.int .i64 c.n)∧W.cell? ⟨w.heap.size,2,none⟩=some c.v:=fun W hb=>
  ⟨(hb.cell (p:=⟨w.heap.size,0,none⟩) (show w.heap.size<w1.heap.size by omega)).trans c0,(hb.cell (p:=⟨w.heap.size,1,none⟩) (show w.heap.size<w1.heap.size by omega)).trans c1,(hb.cell (p:=⟨w.heap.size,2,none⟩) (show w.heap.size<w1.heap.size by omega)).trans c2⟩
 have HE:Hid (∀W,Below w1.heap.size w1 W→Calls prog 182 #[.pointer (some ⟨b,o,none⟩)] W fun E w'=>E=.returned (.int .i64 (Cm.lastE 0 (aD rs)))∧Below W.heap.size W w'∧Below w1.heap.size w1 w'∧w'.cell? ⟨w.heap.size,0,none⟩=some (.int .i64 c.e)∧w'.cell? ⟨w.heap.size,1,none⟩=some (.int .i64 c.n)∧w'.cell? ⟨w.heap.size,2,none⟩=some c.v):=hide fun W hb=>by
  refine(aby b o W vc rs (((hK W hb).cell (p:=⟨b,o,none⟩) hbw).trans hc) (h.below (hK W hb)) hl).mono ?_
  rintro E w' ⟨rfl,m,rfl⟩
  exact⟨rfl,below_drewN (Below.refl _ _) m,below_drewN hb m,hS _ (below_drewN hb m)⟩
 have HN:Hid (∀W,Below w1.heap.size w1 W→Calls prog 139 #[.pointer (some ⟨b,o,none⟩)] W fun E w'=>E=.returned (.int .i64 rs.length)∧W=w'):=hide fun W hb=>
  lD b o W vc rs (((hK W hb).cell (p:=⟨b,o,none⟩) hbw).trans hc) (h.below (hK W hb))
 have hcl:(aD rs).length=rs.length:=dJ rs
 obtain⟨fe,fp,apS⟩:∃fe fp,Cm.fol (Cm.lastE 0 (aD rs)) rs.length 0 [c.c]=(fe,fp):=⟨_,_,rfl⟩
 have HT:Hid (tk (aD rs) c.c=((fe==0)&&(fp==0))):=hide (by rw[axj,hcl,apS])
 have HF:Hid (∀W v,Below w1.heap.size w1 W→eD W v [c]→Calls prog 10 #[.int .i64 (Cm.lastE 0 (aD rs)),.int .i64 rs.length,v] W fun E w'=>E=.returned (.agg #[.int .i64 fe,.int .i64 fp])∧Below w1.heap.size w1 w'∧w'.cell? ⟨w.heap.size,0,none⟩=some (.int .i64 c.e)∧w'.cell? ⟨w.heap.size,1,none⟩=some (.int .i64 c.n)∧w'.cell? ⟨w.heap.size,2,none⟩=some c.v):=hide fun W v hb hr=>by
  have hx:=q9 (Cm.lastE 0 (aD rs)) rs.length v [c] W ⟨hr,fun d hd=>by rw[List.mem_singleton.1 hd];exact⟨hi.below (hK W hb),he,hn⟩⟩ (fun d hd=>by rw[List.mem_singleton.1 hd];exact⟨hf,hlo⟩) (by simp)
  rw[show aD [c]=[c.c]from rfl,apS]at hx
  refine hx.mono ?_
  rintro E w' ⟨rfl,hb'⟩
  have hb2:=hb.trans (hb'.mono hb.size)
  exact⟨rfl,hb2,hS _ hb2⟩
 have hrow:Hid (∀W,∃V,W.alloc (.cells #[.int .i64 c.e,.int .i64 c.n,c.v] 35)=V∧Below W.heap.size W V∧eD V (.slice (some ⟨W.heap.size,0,none⟩) 1 1) [c]):=hide fun W=>by
  obtain⟨V,hV,_,bV,oV⟩:=kE 35 W #[.int .i64 c.e,.int .i64 c.n,c.v] 1 [c] rfl rfl (by simp[maxLen])
  exact⟨V,hV,bV,oV.row⟩
 obtain⟨wA,oL,jf,axh⟩:=hrow.out w1.drew
 have b1A:Below w1.heap.size w1 wA:=(Below.refl w1.heap.size w1).drew.trans jf
 obtain⟨a0,a1,a2⟩:=hS wA b1A
 have HS:=hide hS
 have RA:Hid (eD wA (.slice (some ⟨w.heap.size+1,0,none⟩) 1 1) [c]):=hide (by rw[←aV];exact axh)
 have b11:Below w1.heap.size w1 w1.drew:=(Below.refl w1.heap.size w1).drew
 have q1:=Tryz.aAG fe fp 0 0
 have q2:=Tryz.yE .eql
 unfold cK
 rw[hv]at c2 a2 hw1 oL HE HF HS hrow⊢
 generalize Cm.lastE 0 (aD rs)=ep at*
 rw[HT.out]
 have FIN:Hid (∀W,Below w1.heap.size w1 W→Below w.heap.size w W):=hide hK
 clear hc h hi he hn hf hlo hB apS hv hcl hK hS axh jf
 go_enter func243,ntmps243
 go_wp2_with fail
 go_region_held3 (fun w'=>w'.cell? ⟨w.heap.size,0,none⟩=some (.int .i64 c.e)∧w'.cell? ⟨w.heap.size,1,none⟩=some (.int .i64 c.n)∧w'.cell? ⟨w.heap.size,2,none⟩=some (.slice ao c.l.length cap)) (first|exact⟨c0,c1,c2⟩|exact⟨a0,a1,a2⟩|exact⟨d0,d1,d2⟩|exact⟨e0,e1,e2⟩|exact⟨i0,i1,i2⟩|go_keep)
  (first
  |(go_at_call 182;refine(HE.out _ (by first|exact b11|exact b1A)).mono ?_;rintro E w2 ⟨rfl,az,b12,d0,d1,d2⟩;first|(have ajp:=hide (RA.out.below az))|skip;obtain⟨w4,hw4,aL,acf⟩:=hrow.out w2;have b14:=b12.trans (aL.mono b12.size);obtain⟨e0,e1,e2⟩:=HS.out w4 b14;have acf:=hide acf;clear az aL)
  |(go_at_call 139;refine(HN.out _ (by first|exact b12|exact b14)).mono ?_;rintro E w3 ⟨rfl,rfl⟩)
  |(go_at_call 10;refine(HF.out _ _ (by first|exact b14|exact b12) (by first|exact acf.out|exact ajp.out)).mono ?_;rintro E w5 ⟨rfl,b15,i0,i1,i2⟩))
 all_goals
  go_wp2
  go_ret
  exact⟨rfl,FIN.out _ b15⟩
namespace Rol
open Pm (Pg chk no Ok)
def ck (x:Pg) (n lo hi:Int):Int:=if chk x=0 then(if n<lo∨hi<n then 2 else 0)else chk x
def own (x:Pg):Int:=if x.r=1 then 0 else if x.r=2 then 1 else if x.p=1 then 2 else if x.p=2 then 3 else if x.p=3 then 4 else 5
end Rol
theorem ahy (x:Pm.Pg)(n lo hi:Int)(w:World)(hx:ig x)(hm:fU w):
  Calls prog 161 #[vp x,.int .i64 n,.int .i64 lo,.int .i64 hi] w fun E w'=>E=.returned (.int .i64 (Rol.ck x n lo hi))∧Below w.heap.size w w':=by
 obtain⟨w2,hw2,dA,az,hP⟩:=au w #[.int .i64 x.e,.int .u8 x.r,.int .i64 x.a,.int .u8 x.p,.int .i64 x.f,.int .i64 x.b] 46
 obtain⟨p0,p1,p2,p3,p4,p5⟩:=aR hP
 have CK:=hide (ll x w2 hx (hm.below az))
 have PST:Hid (∀W,Below w2.heap.size w2 W→Below w.heap.size w W):=hide fun W hW=>az.trans (hW.mono (by omega))
 unfold Rol.ck
 obtain⟨ch,hch⟩:∃c,Pm.chk x=c:=⟨_,rfl⟩
 rw[hch]at CK⊢
 clear az hx hP hm hch
 by_cases h0:ch=0
 ·subst h0
  rw[if_pos rfl]
  by_cases h1:n<lo
  ·rw[if_pos (.inl h1)]
   unfold vp
   go_enter func161,ntmps161
   go_wp2_with fail
   refine CK.out.mono ?_
   rintro E w3 ⟨rfl,b3⟩
   have BB:=hide (PST.out w3 b3)
   clear CK PST b3
   go_wp2
   go_ret
   exact⟨rfl,BB.out⟩
  ·by_cases h2:hi<n
   ·rw[if_pos (.inr h2)]
    unfold vp
    go_enter func161,ntmps161
    go_wp2_with fail
    refine CK.out.mono ?_
    rintro E w3 ⟨rfl,b3⟩
    have BB:=hide (PST.out w3 b3)
    clear CK PST b3
    go_wp2
    go_ret
    exact⟨rfl,BB.out⟩
   ·rw[if_neg (by omega)]
    unfold vp
    go_enter func161,ntmps161
    go_wp2_with fail
    refine CK.out.mono ?_
    rintro E w3 ⟨rfl,b3⟩
    have BB:=hide (PST.out w3 b3)
    clear CK PST b3
    go_wp2
    go_ret
    exact⟨rfl,BB.out⟩
 ·rw[if_neg h0]
  have hb:(ch !=0)=true:=by simpa using h0
  unfold vp
  go_enter func161,ntmps161
  go_wp2_with fail
  refine CK.out.mono ?_
  rintro E w3 ⟨rfl,b3⟩
  have BB:=hide (PST.out w3 b3)
  clear CK PST b3
  go_wp2
  go_ret
  exact⟨rfl,BB.out⟩
theorem agQ (x:Pm.Pg)(w:World):
  Calls prog 216 #[vp x] w fun E w'=>E=.returned (.int .i64 (Rol.own x))∧Below w.heap.size w w':=by
 obtain⟨w2,hw2,dA,az,hP⟩:=au w #[.int .i64 x.e,.int .u8 x.r,.int .i64 x.a,.int .u8 x.p,.int .i64 x.f,.int .i64 x.b] 46
 obtain⟨p0,p1,p2,p3,p4,p5⟩:=aR hP
 unfold Rol.own
 have BB:=hide az
 clear az hP
 unfold vp
 by_cases h0:x.r=1
 ·rw[if_pos h0]
  have g0:(x.r==1)=true:=by simpa using h0
  clear h0
  go_enter func216,ntmps216
  go_wp2
  go_ret
  exact⟨rfl,BB.out⟩
 rw[if_neg h0]
 have g0:(x.r==1)=false:=by simpa using h0
 by_cases h1:x.r=2
 ·rw[if_pos h1]
  have g1:(x.r==2)=true:=by simpa using h1
  clear h1
  go_enter func216,ntmps216
  go_wp2
  go_ret
  exact⟨rfl,BB.out⟩
 rw[if_neg h1]
 have g1:(x.r==2)=false:=by simpa using h1
 by_cases h2:x.p=1
 ·rw[if_pos h2]
  have g2:(x.p==1)=true:=by simpa using h2
  clear h2
  go_enter func216,ntmps216
  go_wp2
  go_ret
  exact⟨rfl,BB.out⟩
 rw[if_neg h2]
 have g2:(x.p==1)=false:=by simpa using h2
 by_cases h3:x.p=2
 ·rw[if_pos h3]
  have g3:(x.p==2)=true:=by simpa using h3
  clear h3
  go_enter func216,ntmps216
  go_wp2
  go_ret
  exact⟨rfl,BB.out⟩
 rw[if_neg h3]
 have g3:(x.p==2)=false:=by simpa using h3
 by_cases h4:x.p=3
 ·rw[if_pos h4]
  have g4:(x.p==3)=true:=by simpa using h4
  clear h4
  go_enter func216,ntmps216
  go_wp2
  go_ret
  exact⟨rfl,BB.out⟩
 rw[if_neg h4]
 have g4:(x.p==3)=false:=by simpa using h4
 clear h0 h1 h2 h3 h4
 go_enter func216,ntmps216
 go_wp2
 go_ret
 exact⟨rfl,BB.out⟩
theorem ajq (x:Pm.Pg)(n:Int)(g:Nat)(w:World)(hg:w.heap[g]? =some (.cells #[.int .i64 n] 3 (0,0))):
  Calls prog 275 #[vp x,.pointer (some ⟨g,0,none⟩)] w fun E w'=>E=.returned (.agg #[.int .i64 x.e,.int .u8 x.r,.int .i64 n,.int .u8 x.p,.int .i64 x.f,.int .i64 x.b])∧Below w.heap.size w w':=by
 obtain⟨w1,w2,hw1,hw2,aV,dA,az,⟨p0,p1,p2,p3,p4,p5⟩,PST⟩:=lK x w
 obtain⟨hP3,dP,B3,bO⟩:=PST.out w2 (Below.refl _ _)
 have lg:=ay hg
 have cg:w2.cell? ⟨g,0,none⟩=some (.int .i64 n):=ai ((az.block g lg).trans hg) 0 rfl
 obtain⟨m0,hm0,awE,gm0,fm0⟩:=um hP3 2 (.int .i64 n)
 have avU:=(fG gm0 (by omega)).trans dP
 have Bm0:=aG B3 gm0 (Nat.le_refl _) (by omega)
 have aAj:=gm0.size
 obtain⟨r00,r01,r02,r03,r04,r05⟩:Six m0 w.heap.size (.int .i64 x.e) (.int .u8 x.r) (.int .i64 n) (.int .u8 x.p) (.int .i64 x.f) (.int .i64 x.b):=aR awE
 obtain⟨Z,hZ,_,gZ,⟨a0,a1,a2,a3,a4,a5⟩,fr,⟨z0,z1,z2,z3,z4,z5⟩⟩:=gN avU (.int .i64 x.e) (.int .u8 x.r) (.int .i64 n) (.int .u8 x.p) (.int .i64 x.f) (.int .i64 x.b)
 have f0:=fr 0;have f1:=fr 1;have f2:=fr 2;have f3:=fr 3;have f4:=fr 4;have f5:=fr 5
 have BB:=hide (aG Bm0 gZ (by omega) (by omega))
 clear PST hP3 dP B3 bO gZ fr az awE gm0 avU Bm0 aAj hg lg
 unfold vp
 go_enter func275,ntmps275
 go_wp2
 refine bodyPost_ret (v:=.agg #[.int .i64 x.e,.int .u8 x.r,.int .i64 n,.int .u8 x.p,.int .i64 x.f,.int .i64 x.b]) (by simp[results,results275,go_sem,z0,z1,z2,z3,z4,z5]) rfl ?_
 exact⟨rfl,BB.out⟩
theorem ajs (x:Pm.Pg)(n:Int)(g:Nat)(w:World)(hg:w.heap[g]? =some (.cells #[.int .i64 n] 3 (0,0))):
  Calls prog 280 #[vp x,.pointer (some ⟨g,0,none⟩)] w fun E w'=>E=.returned (.agg #[.int .i64 n,.int .u8 3,.int .i64 0,.int .u8 1,.int .i64 0,.int .i64 0])∧Below w.heap.size w w':=by
 obtain⟨w1,w2,hw1,hw2,aV,dA,az,⟨p0,p1,p2,p3,p4,p5⟩,PST⟩:=lK x w
 obtain⟨hP3,dP,B3,bO⟩:=PST.out w2 (Below.refl _ _)
 have lg:=ay hg
 have cg:w2.cell? ⟨g,0,none⟩=some (.int .i64 n):=ai ((az.block g lg).trans hg) 0 rfl
 obtain⟨Z,hZ,_,gZ,⟨a0,a1,a2,a3,a4,a5⟩,fr,⟨z0,z1,z2,z3,z4,z5⟩⟩:=gN dP (.int .i64 n) (.int .u8 3) (.int .i64 0) (.int .u8 1) (.int .i64 0) (.int .i64 0)
 have f0:=fr 0;have f1:=fr 1;have f2:=fr 2;have f3:=fr 3;have f4:=fr 4;have f5:=fr 5
 have BB:=hide (aG B3 gZ (by omega) (by omega))
 clear PST hP3 dP B3 bO gZ fr az hg lg
 unfold vp
 go_enter func280,ntmps280
 go_wp2
 refine bodyPost_ret (v:=.agg #[.int .i64 n,.int .u8 3,.int .i64 0,.int .u8 1,.int .i64 0,.int .i64 0]) (by simp[results,results280,go_sem,z0,z1,z2,z3,z4,z5]) rfl ?_
 exact⟨rfl,BB.out⟩
theorem adx (q:Int)(w:World):
  Calls prog 278 #[.int .u8 q] w fun E w'=>E=.returned (.func (.func 307) #[] #[.pointer (some ⟨w.heap.size,0,none⟩)])∧w'.heap.size=w.heap.size+1∧w'.heap[w.heap.size]? =some (.cells #[.int .u8 q] 44 (0,0))∧Below w.heap.size w w':=by
 have kQ:∀(fn:Fn) (first cap:Array Value) (w:World),(Instr.makeFunc fn first cap).run prog w=.ok (.func fn first cap) w:=fun _ _ _ _=>rfl
 obtain⟨w1,hw1,aV,aj,hP⟩:=au w #[.int .u8 q] 44
 have R:=hide (And.intro aV (And.intro hP aj))
 clear aV hP aj
 go_enter func278,ntmps278
 go_wp2
 go_ret
 exact⟨rfl,R.out⟩
structure Tbl (B:Nat) (n b:Int) (w:World):Prop where
 h0:w.heap[B]? =some (.cells #[.int .i64 n] 3 (0,0))
 h1:w.heap[B+1]? =some (.cells #[.int .i64 b] 3 (0,0))
 h3:w.heap[B+3]? =some (.cells #[.int .u8 3] 44 (0,0))
 h4:w.heap[B+4]? =some (.cells #[.int .u8 4] 44 (0,0))
def aqp (B:Nat):Value:=.agg #[.func (.func 275) #[] #[.pointer (some ⟨B,0,none⟩)],.func (.func 276) #[] #[.pointer (some ⟨B,0,none⟩)],.func (.func 277) #[] #[.pointer (some ⟨B,0,none⟩),.pointer (some ⟨B+1,0,none⟩)],.func (.func 307) #[] #[.pointer (some ⟨B+3,0,none⟩)],.func (.func 307) #[] #[.pointer (some ⟨B+4,0,none⟩)],.func (.func 279) #[] #[],.func (.func 280) #[] #[.pointer (some ⟨B,0,none⟩)]]
theorem aAC {V:World}{R:Nat}{t:TypeId}{u:Value}(hR:V.heap[R]? =some (.cells #[u,u,u,u,u,u,u] t (0,0)))(a b c d e f g:Value):
  ∃V',((((((V.setCell ⟨R,0,none⟩ a).setCell ⟨R,1,none⟩ b).setCell ⟨R,2,none⟩ c).setCell ⟨R,3,none⟩ d).setCell ⟨R,4,none⟩ e).setCell ⟨R,5,none⟩ f).setCell ⟨R,6,none⟩ g=V'∧V'.heap[R]? =some (.cells #[a,b,c,d,e,f,g] t (0,0))∧V.grownBy V' (some R):=by
 have h0:(V.setCell ⟨R,0,none⟩ a).heap[R]? =some (.cells #[a,u,u,u,u,u,u] t (0,0)):=aF hR 0 a
 have h1:((V.setCell ⟨R,0,none⟩ a).setCell ⟨R,1,none⟩ b).heap[R]? =some (.cells #[a,b,u,u,u,u,u] t (0,0)):=aF h0 1 b
 have h2:(((V.setCell ⟨R,0,none⟩ a).setCell ⟨R,1,none⟩ b).setCell ⟨R,2,none⟩ c).heap[R]? =some (.cells #[a,b,c,u,u,u,u] t (0,0)):=aF h1 2 c
 have h3:((((V.setCell ⟨R,0,none⟩ a).setCell ⟨R,1,none⟩ b).setCell ⟨R,2,none⟩ c).setCell ⟨R,3,none⟩ d).heap[R]? =some (.cells #[a,b,c,d,u,u,u] t (0,0)):=aF h2 3 d
 have h4:(((((V.setCell ⟨R,0,none⟩ a).setCell ⟨R,1,none⟩ b).setCell ⟨R,2,none⟩ c).setCell ⟨R,3,none⟩ d).setCell ⟨R,4,none⟩ e).heap[R]? =some (.cells #[a,b,c,d,e,u,u] t (0,0)):=aF h3 4 e
 have h5:((((((V.setCell ⟨R,0,none⟩ a).setCell ⟨R,1,none⟩ b).setCell ⟨R,2,none⟩ c).setCell ⟨R,3,none⟩ d).setCell ⟨R,4,none⟩ e).setCell ⟨R,5,none⟩ f).heap[R]? =some (.cells #[a,b,c,d,e,f,u] t (0,0)):=aF h4 5 f
 have h:(((((((V.setCell ⟨R,0,none⟩ a).setCell ⟨R,1,none⟩ b).setCell ⟨R,2,none⟩ c).setCell ⟨R,3,none⟩ d).setCell ⟨R,4,none⟩ e).setCell ⟨R,5,none⟩ f).setCell ⟨R,6,none⟩ g).heap[R]? =some (.cells #[a,b,c,d,e,f,g] t (0,0)):=aF h5 6 g
 refine⟨_,rfl,h,?_⟩
 exact aH (aH (aH (aH (aH (aH (ax V ⟨R,0,none⟩ a) (ax _ ⟨R,1,none⟩ b)) (ax _ ⟨R,2,none⟩ c)) (ax _ ⟨R,3,none⟩ d)) (ax _ ⟨R,4,none⟩ e)) (ax _ ⟨R,5,none⟩ f)) (ax _ ⟨R,6,none⟩ g)
theorem aff (n b:Int)(w:World):
  Calls prog 210 #[.int .i64 n,.int .i64 b] w fun E w'=>E=.returned (aqp w.heap.size)∧Tbl w.heap.size n b w'∧Below w.heap.size w w':=by
 have kQ:∀(fn:Fn) (first cap:Array Value) (w:World),(Instr.makeFunc fn first cap).run prog w=.ok (.func fn first cap) w:=fun _ _ _ _=>rfl
 have hsf:∀(a:Addr) (fn:Fn) (first cap:Array Value) (w:World),(store a (.func fn first cap)).run prog w=stored prog w a (.func fn first cap) .plain:=fun a fn first cap w=>run_store _ w a _ _ rfl
 obtain⟨w1,hw1,aV,aj,hP1⟩:=au w #[.int .i64 n] 3
 obtain⟨w2,hw2,s2,az,hP2⟩:=au w1 #[.int .i64 b] 3
 obtain⟨w3,hw3,s3,aC,hP3⟩:=au w2 #[.nilFunc,.nilFunc,.nilFunc,.nilFunc,.nilFunc,.nilFunc,.nilFunc] 264
 have dA:w2.heap.size=w.heap.size+2:=by omega
 have bO:w3.heap.size=w.heap.size+3:=by omega
 rw[aV]at hP2
 rw[dA]at hP3
 have W3:=hide (And.intro ((aC.block _ (by omega)).trans ((az.block _ (by omega)).trans hP1)) (And.intro ((aC.block _ (by omega)).trans hP2) (And.intro hP3 (aj.trans ((az.mono (by omega)).trans (aC.mono (by omega)))))))
 have C3:=hide (adx 3 w3)
 clear aj az aC hP1 hP2 hP3 s2 s3
 go_enter func210,ntmps210
 go_wp2_with fail
 refine C3.out.mono ?_
 rintro E w4 ⟨rfl,s4,rA,b4⟩
 have C4:=hide (adx 4 w4)
 have W4:=hide (And.intro rA b4)
 have iK:w4.heap.size=w.heap.size+4:=by omega
 clear C3 rA b4 s4
 go_wp2_with fail
 refine C4.out.mono ?_
 rintro E w5 ⟨rfl,mO,hP5,b5⟩
 obtain⟨p1,p2,p3,bw⟩:=W3.out
 obtain⟨p4,b4⟩:=W4.out
 rw[iK]at hP5
 rw[bO]at p4
 have b35:=b4.trans (b5.mono (by omega))
 have q1:=(b35.block _ (by omega)).trans p1
 have q2:=(b35.block _ (by omega)).trans p2
 have q3:=(b35.block _ (by omega)).trans p3
 have q4:=(b5.block _ (by omega)).trans p4
 obtain⟨Z,hZ,hZR,gZ⟩:=aAC q3 (.func (.func 275) #[] #[.pointer (some ⟨w.heap.size,0,none⟩)]) (.func (.func 276) #[] #[.pointer (some ⟨w.heap.size,0,none⟩)]) (.func (.func 277) #[] #[.pointer (some ⟨w.heap.size,0,none⟩),.pointer (some ⟨w.heap.size+1,0,none⟩)]) (.func (.func 307) #[] #[.pointer (some ⟨w.heap.size+3,0,none⟩)]) (.func (.func 307) #[] #[.pointer (some ⟨w.heap.size+4,0,none⟩)]) (.func (.func 279) #[] #[]) (.func (.func 280) #[] #[.pointer (some ⟨w.heap.size,0,none⟩)])
 have R:Hid (Tbl w.heap.size n b Z∧Below w.heap.size w Z):=hide ⟨⟨(gZ.block _ (by omega) (by simp)).trans q1,(gZ.block _ (by omega) (by simp)).trans q2,(gZ.block _ (by omega) (by simp)).trans q4,(gZ.block _ (by omega) (by simp)).trans hP5⟩,aG (bw.trans (b35.mono (by omega))) gZ (by omega) (by omega)⟩
 have a0:w5.cell? ⟨w.heap.size+2,0,none⟩=some .nilFunc:=ai q3 0 rfl
 have f0:=aA q3 0
 have z0:Z.cell? ⟨w.heap.size+2,0,none⟩=some (.func (.func 275) #[] #[.pointer (some ⟨w.heap.size,0,none⟩)]):=ai hZR 0 rfl
 have a1:w5.cell? ⟨w.heap.size+2,1,none⟩=some .nilFunc:=ai q3 1 rfl
 have f1:=aA q3 1
 have z1:Z.cell? ⟨w.heap.size+2,1,none⟩=some (.func (.func 276) #[] #[.pointer (some ⟨w.heap.size,0,none⟩)]):=ai hZR 1 rfl
 have a2:w5.cell? ⟨w.heap.size+2,2,none⟩=some .nilFunc:=ai q3 2 rfl
 have f2:=aA q3 2
 have z2:Z.cell? ⟨w.heap.size+2,2,none⟩=some (.func (.func 277) #[] #[.pointer (some ⟨w.heap.size,0,none⟩),.pointer (some ⟨w.heap.size+1,0,none⟩)]):=ai hZR 2 rfl
 have a3:w5.cell? ⟨w.heap.size+2,3,none⟩=some .nilFunc:=ai q3 3 rfl
 have f3:=aA q3 3
 have z3:Z.cell? ⟨w.heap.size+2,3,none⟩=some (.func (.func 307) #[] #[.pointer (some ⟨w.heap.size+3,0,none⟩)]):=ai hZR 3 rfl
 have a4:w5.cell? ⟨w.heap.size+2,4,none⟩=some .nilFunc:=ai q3 4 rfl
 have f4:=aA q3 4
 have z4:Z.cell? ⟨w.heap.size+2,4,none⟩=some (.func (.func 307) #[] #[.pointer (some ⟨w.heap.size+4,0,none⟩)]):=ai hZR 4 rfl
 have a5:w5.cell? ⟨w.heap.size+2,5,none⟩=some .nilFunc:=ai q3 5 rfl
 have f5:=aA q3 5
 have z5:Z.cell? ⟨w.heap.size+2,5,none⟩=some (.func (.func 279) #[] #[]):=ai hZR 5 rfl
 have a6:w5.cell? ⟨w.heap.size+2,6,none⟩=some .nilFunc:=ai q3 6 rfl
 have f6:=aA q3 6
 have z6:Z.cell? ⟨w.heap.size+2,6,none⟩=some (.func (.func 280) #[] #[.pointer (some ⟨w.heap.size,0,none⟩)]):=ai hZR 6 rfl
 rw[iK]
 clear p1 p2 p3 p4 q1 q2 q3 q4 b35 b4 b5 bw hP5 hZR gZ C4 W3 W4 mO
 go_wp2
 refine bodyPost_ret (v:=aqp w.heap.size) (by simp[results,results210,go_sem,aqp,z0,z1,z2,z3,z4,z5,z6]) rfl ?_
 exact⟨rfl,R.out⟩
theorem Tryz.azb (f0 f1 f2 f3 f4 f5 f6:Value)(w:World):(Instr.index 264 (.agg #[f0,f1,f2,f3,f4,f5,f6]) (.int .i64 0)).run prog w=.ok f0 w:=by kernel_rfl
theorem Tryz.ayZ (f0 f1 f2 f3 f4 f5 f6:Value)(w:World):(Instr.index 264 (.agg #[f0,f1,f2,f3,f4,f5,f6]) (.int .i64 6)).run prog w=.ok f6 w:=by kernel_rfl
theorem atf (x:Pm.Pg)(k n b:Int)(w:World)(h:Rol.own x≠k):
  Calls prog 162 #[vp x,.int .i64 k,.int .i64 n,.int .i64 b] w fun E w'=>E=.returned (.tuple #[.agg #[.int .i64 0,.int .u8 0,.int .i64 0,.int .u8 0,.int .i64 0,.int .i64 0],.int .i64 15])∧Below w.heap.size w w':=by
 obtain⟨w1,w2,hw1,hw2,aV,dA,az,⟨p0,p1,p2,p3,p4,p5⟩,PST⟩:=lK x w
 have C0:=hide (agQ x w2)
 have hb:(Rol.own x !=k)=true:=by simpa using h
 generalize Rol.own x=o at*
 clear az h
 unfold vp
 go_enter func162,ntmps162
 go_wp2_with fail
 refine C0.out.mono ?_
 rintro E w3 ⟨rfl,b3⟩
 obtain⟨hP3,dP,B3,bO⟩:=PST.out w3 b3
 obtain⟨Z,hZ,_,gZ,⟨a0,a1,a2,a3,a4,a5⟩,fr,⟨z0,z1,z2,z3,z4,z5⟩⟩:=gN dP (.int .i64 0) (.int .u8 0) (.int .i64 0) (.int .u8 0) (.int .i64 0) (.int .i64 0)
 have f0:=fr 0;have f1:=fr 1;have f2:=fr 2;have f3:=fr 3;have f4:=fr 4;have f5:=fr 5
 have BB:=hide (aG B3 gZ (by omega) (by omega))
 clear C0 PST b3 hP3 dP B3 bO gZ fr p0 p1 p2 p3 p4 p5
 go_wp2
 refine bodyPost_ret (v:=.tuple #[.agg #[.int .i64 0,.int .u8 0,.int .i64 0,.int .u8 0,.int .i64 0,.int .i64 0],.int .i64 15]) (by simp[results,results162,go_sem,z0,z1,z2,z3,z4,z5]) rfl ?_
 exact⟨rfl,BB.out⟩
theorem yC (x:Pm.Pg)(n b:Int)(w:World)(h:Rol.own x=0):
  Calls prog 162 #[vp x,.int .i64 0,.int .i64 n,.int .i64 b] w fun E w'=>E=.returned (.tuple #[.agg #[.int .i64 x.e,.int .u8 x.r,.int .i64 n,.int .u8 x.p,.int .i64 x.f,.int .i64 x.b],.int .i64 0])∧Below w.heap.size w w':=by
 obtain⟨w1,w2,hw1,hw2,aV,dA,az,⟨p0,p1,p2,p3,p4,p5⟩,PST⟩:=lK x w
 have C0:=hide (agQ x w2)
 rw[h]at C0
 have CC:Hid (∀W,Below w2.heap.size w2 W→Calls prog 210 #[.int .i64 n,.int .i64 b] W fun E w'=>∃B,E=.returned (.agg #[.func (.func 275) #[] #[.pointer (some ⟨B,0,none⟩)],.func (.func 276) #[] #[.pointer (some ⟨B,0,none⟩)],.func (.func 277) #[] #[.pointer (some ⟨B,0,none⟩),.pointer (some ⟨B+1,0,none⟩)],.func (.func 307) #[] #[.pointer (some ⟨B+3,0,none⟩)],.func (.func 307) #[] #[.pointer (some ⟨B+4,0,none⟩)],.func (.func 279) #[] #[],.func (.func 280) #[] #[.pointer (some ⟨B,0,none⟩)]])∧Tbl B n b w'∧Below w2.heap.size w2 w'):=hide fun W hW=>(aff n b W).mono fun E w' h=>⟨W.heap.size,h.1,h.2.1,hW.trans (h.2.2.mono hW.size)⟩
 clear az h
 unfold vp
 go_enter func162,ntmps162
 go_wp2_with fail
 refine C0.out.mono ?_
 rintro E w3 ⟨rfl,b3⟩
 obtain⟨hP3,dP,B3,bO⟩:=PST.out w3 b3
 have Sk3:=hide (nO hP3)
 have B3':=hide b3
 clear C0 b3 hP3 dP B3 bO p0 p1 p2 p3 p4 p5
 go_wp2_with fail
 have hix:=Tryz.azb
 go_region_held3 (fun W=>W.cell? ⟨w.heap.size,0,none⟩=some (.int .i64 x.e)∧W.cell? ⟨w.heap.size,1,none⟩=some (.int .u8 x.r)∧W.cell? ⟨w.heap.size,2,none⟩=some (.int .i64 x.a)∧W.cell? ⟨w.heap.size,3,none⟩=some (.int .u8 x.p)∧W.cell? ⟨w.heap.size,4,none⟩=some (.int .i64 x.f)∧W.cell? ⟨w.heap.size,5,none⟩=some (.int .i64 x.b)) (first|exact Sk7.out|exact Sk6.out|exact Sk4.out|exact Sk3.out|go_keep)
  (first
  |(go_at_call 210;refine(CC.out _ B3'.out.drew).mono ?_;rintro E w4 ⟨B,rfl,t4,b4⟩;have T4:=hide t4;have B4:=hide b4;have Sk4:=hide (nO (PST.out w4 b4).1);clear t4 b4)
  |(go_at_call 275;refine(ajq x n B _ T4.out.h0).mono ?_;rintro E w6 ⟨rfl,b6⟩;obtain⟨hP6,hR6,B6,sP⟩:=PST.out w6 (B4.out.trans (b6.mono B4.out.size));obtain⟨Z,hZ,_,gZ,⟨a0,a1,a2,a3,a4,a5⟩,fr,⟨z0,z1,z2,z3,z4,z5⟩⟩:=gN hR6 (.int .i64 x.e) (.int .u8 x.r) (.int .i64 n) (.int .u8 x.p) (.int .i64 x.f) (.int .i64 x.b);have f0:=fr 0;have f1:=fr 1;have f2:=fr 2;have f3:=fr 3;have f4:=fr 4;have f5:=fr 5;have BB:=hide (aG B6 gZ (by omega) (by omega));have Sk6:=hide (nO hP6);have Sk7:=hide (nO ((fG gZ ⟨by omega,by omega⟩).trans hP6));clear b6 hP6 hR6 B6 sP gZ fr))
 all_goals
  go_wp2
  refine bodyPost_ret (v:=.tuple #[.agg #[.int .i64 x.e,.int .u8 x.r,.int .i64 n,.int .u8 x.p,.int .i64 x.f,.int .i64 x.b],.int .i64 0]) (by simp[results,results162,go_sem,z0,z1,z2,z3,z4,z5]) rfl ?_
  exact⟨rfl,BB.out⟩
end Go.Proofs.YtlmkaljjocflmaaGreatDoor
