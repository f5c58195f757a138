/- Texts of one layer, one behind the other. -/
import Derived.Test.YtpifdeoepppadaaGreatDoorG14
import Derived.RangeFuncNested
import Derived.RangeFuncBound
import Derived.RangeFuncCalls
import Derived.RangeFuncLeaves
import Derived.Shelf.Abstract
import Derived.Shelf.RegionOpen
import Derived.WalkKit
import Derived.OwnWalkIn
import Derived.TacticsInMore
import Derived.LoopNIn
import Derived.LoopIn
set_option maxRecDepth 100000
set_option maxHeartbeats 8000000
namespace Go.Proofs.YtpifdeoepppadaaGreatDoor
open Go.RowKit Go.Shelf
set_option linter.unusedVariables false
theorem auI {st:Dm.Ds}{r:Dm.Rw}(h:Dm.Ok st)(hf:Dm.fits (Dm.dof st.sure st.wait) r):Dm.Ok (Dm.push st r):=by
 unfold Dm.Ok Dm.push at*
 rw[Dm.tK]
 exact⟨h,hf,trivial⟩
theorem aeL {p:Nat}{W:World}{st:Dm.Ds}{s:Nat→Value}{wv:Value}{rs:List Rv}(h:fM p W st s wv rs)(r:Rv)(hraw:yZ (fun _=>True) W r.v r.bytes)(hra:∀f,f<4→∀b,r.v.ownBlock=some b→(s f).ownBlock≠some b)(hfit:Dm.fits (Dm.dof st.sure st.wait) r.r)(hlen:rs.length≤1000000):
  ∃V,W.drew.alloc (.cells #[.int .i64 (jq r),.int .i64 r.file,r.v,.int .i64 r.to] 132)=V∧V.cell? ⟨p,7,none⟩=some wv∧Hid (∀ty,∃v' w',(Builtin.append_ #[73,73] ty #[wv,.slice (some ⟨W.heap.size,0,none⟩) 1 1]).run Tryz.prog V=.ok v' w'∧
   ((∃F',Pk p F' (w'.setCell ⟨p,7,none⟩ v') (Dm.push st r.r)∧Out (FB p s wv rs) W (w'.setCell ⟨p,7,none⟩ v')∧∀g,F' g→FB p s wv rs g∨W.heap.size≤g∨r.v.ownBlock=some g)∧w'.cell? ⟨p,7,none⟩=some wv∧w'.frozen? ⟨p,7,none⟩=false∧∃a n c,v'=.slice a n c)):=by
 obtain⟨a0,n0,k0,kS⟩:=hraw.1.form
 obtain⟨V,hV,fE,bn,aAn⟩:=oI jw 4 kF 132 W.drew #[.int .i64 (jq r),.int .i64 r.file,r.v,.int .i64 r.to] 1 [r] rfl rfl (by decide)
 have eO:Below W.heap.size W V:=(below_drewN (Below.refl _ _) 1).trans bn
 have hV1:=h.below eO
 refine⟨V,hV,hV1.c7,hide fun ty=>?_⟩
 obtain⟨v',w',hr,own',gr',at'⟩:=kE (P:=Tryz.prog) 73 ty jw 4 48 kF (by decide) (by decide) (.agg #[.int .i64 0,.int .i64 0,.slice none 0 0,.int .i64 0]) rfl 132 0 Tryz.underlying73 Tryz.aiY wv rs hV1.fP.row _ [r] aAn.row (aeb [r] fun q hq=>by simp at hq;subst hq;exact hraw.1.form) (by simp;omega) (Nat.zero_le _)
 have out':Out (fun g=>wv.ownBlock=some g) V w':=Out.aT gr' fun g hg=>hg
 have hC':jm w' st.sure (st.wait++[r.r]) s v' (rs++[r]):=hV1.fP.rows own' out' (fun q hq=>by
  rcases List.mem_append.1 hq with hq|hq
  ·exact⟨hV1.fP.raw q hq,hV1.fP.aa1 q hq⟩
  ·simp at hq
   subst hq
   exact⟨hraw.agree fun b hb=>by obtain⟨_,cs,fr,hc⟩:=hraw.2 b hb;exact eO.block b (aA hc),hra⟩) (by rw[List.map_append,h.fP.wait];rfl)
 have hp':w'.heap[p]? =some (.cells (eZ s wv st.on (dQ st) st.count) 75 (0,0)):=(out'.block p (aA hV1.blk) fun h1=>(hV1.fP.ne hV1.blk (by decide) (by decide)).2.1 p h1 rfl).trans hV1.blk
 obtain⟨R1,R2⟩:=fM.put (st':=Dm.push st r.r) (s':=s) (wv':=v') (rs':=rs++[r]) hp' 7 v' rfl hC' (auI h.ok hfit)
 refine⟨v',w',hr,⟨_,⟨s,v',rs++[r],R1,rfl⟩,?_,?_⟩,ai hp' 7 rfl,az hp' 7,?_⟩
 ·have h1:Out (FB p s wv rs) W w':=(Out.of_below eO).trans out' fun g hg=>.inl (.inr (.inr (.inl hg)))
  exact h1.trans R2 fun g hg=>.inl (.inl hg)
 ·rintro g (h1|h1|h1|⟨q,hq,h1⟩)
  ·exact .inl (.inl h1)
  ·exact .inl (.inr (.inl h1))
  ·rcases at' with h2|h2
   ·exact .inl (.inr (.inr (.inl (by rw[←h2];exact h1))))
   ·rw[h1]at h2
    simp at h2
    exact .inr (.inl (by have:=eO.size;omega))
  ·rcases List.mem_append.1 hq with hq|hq
   ·exact .inl (.inr (.inr (.inr ⟨q,hq,h1⟩)))
   ·simp at hq
    subst hq
    exact .inr (.inr h1)
 ·obtain⟨a,c,hv,_⟩:=own'.row.shape
  exact⟨a,_,c,hv⟩
theorem count_tail {p:Nat}{w:World}{st:Dm.Ds}{s:Nat→Value}{wv:Value}{rs:List Rv}(h:fM p w st s wv rs)(hh:st.has=false):
  ∃V,w.setCell ⟨p,8,none⟩ (.int .i64 ((st.count:Int)+1))=V∧fM p V (Dm.cO st) s wv rs∧Out (FB p s wv rs) w V∧V.heap.size=w.heap.size∧∀g,g≠p→V.heap[g]? =w.heap[g]? :=by
 have hb:Dm.cO st={st with count:=st.count+1}:=by simp[Dm.cO,hh]
 obtain⟨R1,R2⟩:=h.set (st':=Dm.cO st) 8 (.int .i64 ((st.count:Int)+1)) (by rw[hb];simp[eZ,dQ,hh]) (by rw[hb]) (by rw[hb])
 exact⟨_,rfl,R1,R2,by simp[World.setCell],fun g hg=>Below.heap_setCell _ _ _ _ hg⟩
theorem aen {p:Nat}{w:World}{st:Dm.Ds}{s:Nat→Value}{wv:Value}{rs:List Rv}(h:fM p w st s wv rs)(hh:st.has=true)(hl:1≤st.left):
  ∃U V,w.setCell ⟨p,2,none⟩ (.int .i64 ((st.left:Int)-1))=U∧U.setCell ⟨p,8,none⟩ (.int .i64 ((st.count:Int)+1))=V∧U.cell? ⟨p,8,none⟩=some (.int .i64 st.count)∧U.frozen? ⟨p,8,none⟩=false∧fM p V (Dm.cO st) s wv rs∧Out (FB p s wv rs) w V∧V.heap.size=w.heap.size∧∀g,g≠p→V.heap[g]? =w.heap[g]? :=by
 have hb:Dm.cO st={st with left:=st.left-1,count:=st.count+1}:=by simp[Dm.cO,hh]
 have hsub:((st.left-1:Nat):Int)=(st.left:Int)-1:=by omega
 obtain⟨R1,R2⟩:=h.set (st':={st with left:=st.left-1}) 2 (.int .i64 ((st.left:Int)-1)) (by simp[eZ,dQ,hh,hsub]) rfl rfl
 obtain⟨R3,R4⟩:=R1.set (st':=Dm.cO st) 8 (.int .i64 ((st.count:Int)+1)) (by rw[hb];simp[eZ,dQ,hh]) (by rw[hb]) (by rw[hb])
 exact⟨_,_,rfl,rfl,R1.c8,R1.kQ 8,R3,R2.trans R4 fun g hg=>.inl hg,by simp[World.setCell],fun g hg=>(Below.heap_setCell _ _ _ _ hg).trans (Below.heap_setCell _ _ _ _ hg)⟩
def PDo (p:Nat) (F:Nat→Prop) (w:World) (st':Dm.Ds) (v:Value) (w':World):Prop:=∃F',Pk p F' w' st'∧Out F w w'∧∀g,F' g→F g∨w.heap.size≤g∨v.ownBlock=some g
theorem PDo.aul {p:Nat}{F:Nat→Prop}{w w':World}{st':Dm.Ds}{v:Value}(h:aP p F w w' st'):PDo p F w st' v w':=by
 obtain⟨F',h1,h2,h3⟩:=h
 exact⟨F',h1,h2,fun g hg=>(h3 g hg).elim .inl fun h=>.inr (.inl h)⟩
theorem abW (p:Nat)(F:Nat→Prop)(w:World)(st:Dm.Ds)(r:Rv)(h:Pk p F w st)(hraw:yZ (fun _=>True) w r.v r.bytes)(hra:∀b,r.v.ownBlock=some b→¬F b)(hfit:Dm.fits (Dm.dof st.sure st.wait) r.r)(hlen:st.wait.length≤1000000)(hl:st.left≤9223372036854775807)(hc:st.count<9223372036854775807):
  Calls Tryz.prog 104 #[.pointer (some ⟨p,0,none⟩),.agg #[.int .i64 (jq r),.int .i64 r.file,r.v,.int .i64 r.to]] w fun E w'=>E=.returned (.int .i64 (if Dm.off st then 6 else 0))∧PDo p F w (if Dm.off st then Dm.iK st else Dm.push (Dm.cO st) r.r) r.v w':=by
 obtain⟨s,wv,rs,h,rfl⟩:=h
 obtain⟨a0,n0,k0,kS⟩:=hraw.1.form
 obtain⟨w1,hw1,bH,ax,hB⟩:=ay w #[.int .i64 (jq r),.int .i64 r.file,r.v,.int .i64 r.to] 132
 have h1:=h.below ax
 have c1:=h1.c1
 have c2:=h1.c2
 have c8:=h1.c8
 have f1:=h1.kQ 1
 have f2:=h1.kQ 2
 have f8:=h1.kQ 8
 have wR:yZ (fun _=>True) w1 r.v r.bytes:=hraw.agree fun b hb=>by obtain⟨_,cs,fr,hc⟩:=hraw.2 b hb;exact ax.block b (aA hc)
 have abj:∀f,f<4→∀b,r.v.ownBlock=some b→(s f).ownBlock≠some b:=fun f hf b hb h2=>hra b hb (.inr (.inl ⟨f,hf,h2⟩))
 have hnp:∀b,r.v.ownBlock=some b→b≠p:=fun b hb h2=>hra b hb (.inl h2)
 have hpw:p<w.heap.size:=aA h.blk
 have hlr:=h.fP.len
 have ayi:jq r=0∨jq r=1:=by unfold jq;split<;>simp
 by_cases hoff:Dm.off st=true
 ·rw[hoff,if_pos rfl,if_pos rfl]
  have hz:dQ st=0:=by
   simp[Dm.off]at hoff
   simp[dQ,hoff.1,hoff.2]
  obtain⟨R1,R2⟩:=h1.set (st':=Dm.iK st) 1 (.bool false) rfl rfl rfl
  have HR:Hid (PDo p (FB p s wv rs) w (Dm.iK st) r.v (w1.setCell ⟨p,1,none⟩ (.bool false))):=hide (PDo.aul (aP.pre ax (aP.acP R1 R2)))
  rw[hz]at c2
  rw[kS]at hw1 HR⊢
  clear h h1 R1 R2 hB hraw wR hra abj hnp hfit hlr hz hoff kS
  go_enter Tryz.func104,Tryz.ntmps104
  go_wp2
  go_ret
  exact⟨rfl,HR.out⟩
 ·have qg:Dm.off st=false:=by simpa using hoff
  rw[qg,if_neg (by simp),if_neg (by simp)]
  cases hh:st.has
  ·have hz:dQ st=-1:=by simp[dQ,hh]
   obtain⟨W,hW,pE,kP,szW,qN⟩:=count_tail h1 hh
   have hBW:=(qN w.heap.size (by omega)).trans hB
   have x0:W.cell? ⟨w.heap.size,0,none⟩=some (.int .i64 (jq r)):=ai hBW 0 rfl
   have x1:W.cell? ⟨w.heap.size,1,none⟩=some (.int .i64 r.file):=ai hBW 1 rfl
   have x2:W.cell? ⟨w.heap.size,2,none⟩=some r.v:=ai hBW 2 rfl
   have x3:W.cell? ⟨w.heap.size,3,none⟩=some (.int .i64 r.to):=ai hBW 3 rfl
   have hb:(Dm.cO st).sure=st.sure∧(Dm.cO st).wait=st.wait:=⟨rfl,rfl⟩
   obtain⟨V,hV,v7,X⟩:=aeL pE r (wR.agree fun b hb=>qN b (hnp b hb)) abj (by rw[hb.1,hb.2];exact hfit) (by omega)
   have X2:Hid (∀ty,∃v' w',(Builtin.append_ #[73,73] ty #[wv,.slice (some ⟨W.heap.size,0,none⟩) 1 1]).run Tryz.prog V=.ok v' w'∧(PDo p (FB p s wv rs) w (Dm.push (Dm.cO st) r.r) r.v (w'.setCell ⟨p,7,none⟩ v')∧w'.cell? ⟨p,7,none⟩=some wv∧w'.frozen? ⟨p,7,none⟩=false∧∃a n c,v'=.slice a n c)):=hide fun ty=>by
    obtain⟨v',w',hr,⟨F',g1,g2,g3⟩,h3⟩:=X.out ty
    refine⟨v',w',hr,⟨F',g1,((Out.of_below ax).trans kP fun g hg=>.inl hg).trans g2 fun g hg=>.inl hg,fun g hg=>?_⟩,h3⟩
    rcases g3 g hg with h4|h4|h4
    ·exact .inl h4
    ·exact .inr (.inl (by omega))
    ·exact .inr (.inr h4)
   have w7:W.cell? ⟨p,7,none⟩=some wv:=pE.c7
   rw[hz]at c2
   rw[kS]at hw1 x2 hV X2⊢
   have hcw:IntKind.i64.wrap ((st.count:Int)+1)=(st.count:Int)+1:=jU _ (by omega) (by omega)
   rcases ayi with hk|hk
   ·rw[hk]at hw1 x0 hV⊢
    clear h h1 hB hraw wR hra abj hnp hfit hlr hz hoff qg kS pE kP qN hBW hb X hk hh
    go_enter Tryz.func104,Tryz.ntmps104
    go_wp2_with fail
    go_region_law (refine fB rfl (.tmp 41) (.tmp 43) 73 rfl wv (.slice (some ⟨W.heap.size,0,none⟩) 1 1) (by first|rfl|(simp[Act.eval];done)) (by first|rfl|(simp[Act.eval];done)) X2.out ?_;rintro v5 w5 ⟨J,d7,g7,a5,n5,c5,rfl⟩;have J:=hide J)
    all_goals
     go_wp2
     go_ret
     exact⟨rfl,J.out⟩
   ·rw[hk]at hw1 x0 hV⊢
    clear h h1 hB hraw wR hra abj hnp hfit hlr hz hoff qg kS pE kP qN hBW hb X hk hh
    go_enter Tryz.func104,Tryz.ntmps104
    go_wp2_with fail
    go_region_law (refine fB rfl (.tmp 41) (.tmp 43) 73 rfl wv (.slice (some ⟨W.heap.size,0,none⟩) 1 1) (by first|rfl|(simp[Act.eval];done)) (by first|rfl|(simp[Act.eval];done)) X2.out ?_;rintro v5 w5 ⟨J,d7,g7,a5,n5,c5,rfl⟩;have J:=hide J)
    all_goals
     go_wp2
     go_ret
     exact⟨rfl,J.out⟩
  ·have hl1:1≤st.left:=by
    simp[Dm.off,hh]at hoff
    omega
   have hz:dQ st=st.left:=by simp[dQ,hh]
   obtain⟨U,W,hU,hW,u8,fu8,pE,kP,szW,qN⟩:=aen h1 hh hl1
   have hBW:=(qN w.heap.size (by omega)).trans hB
   have x0:W.cell? ⟨w.heap.size,0,none⟩=some (.int .i64 (jq r)):=ai hBW 0 rfl
   have x1:W.cell? ⟨w.heap.size,1,none⟩=some (.int .i64 r.file):=ai hBW 1 rfl
   have x2:W.cell? ⟨w.heap.size,2,none⟩=some r.v:=ai hBW 2 rfl
   have x3:W.cell? ⟨w.heap.size,3,none⟩=some (.int .i64 r.to):=ai hBW 3 rfl
   have hb:(Dm.cO st).sure=st.sure∧(Dm.cO st).wait=st.wait:=⟨rfl,rfl⟩
   obtain⟨V,hV,v7,X⟩:=aeL pE r (wR.agree fun b hb=>qN b (hnp b hb)) abj (by rw[hb.1,hb.2];exact hfit) (by omega)
   have X2:Hid (∀ty,∃v' w',(Builtin.append_ #[73,73] ty #[wv,.slice (some ⟨W.heap.size,0,none⟩) 1 1]).run Tryz.prog V=.ok v' w'∧(PDo p (FB p s wv rs) w (Dm.push (Dm.cO st) r.r) r.v (w'.setCell ⟨p,7,none⟩ v')∧w'.cell? ⟨p,7,none⟩=some wv∧w'.frozen? ⟨p,7,none⟩=false∧∃a n c,v'=.slice a n c)):=hide fun ty=>by
    obtain⟨v',w',hr,⟨F',g1,g2,g3⟩,h3⟩:=X.out ty
    refine⟨v',w',hr,⟨F',g1,((Out.of_below ax).trans kP fun g hg=>.inl hg).trans g2 fun g hg=>.inl hg,fun g hg=>?_⟩,h3⟩
    rcases g3 g hg with h4|h4|h4
    ·exact .inl h4
    ·exact .inr (.inl (by omega))
    ·exact .inr (.inr h4)
   have w7:W.cell? ⟨p,7,none⟩=some wv:=pE.c7
   rw[hz]at c2
   rw[kS]at hw1 x2 hV X2⊢
   have hcw:IntKind.i64.wrap ((st.count:Int)+1)=(st.count:Int)+1:=jU _ (by omega) (by omega)
   have hlw:IntKind.i64.wrap ((st.left:Int)-1)=(st.left:Int)-1:=jU _ (by omega) (by omega)
   have hl0:((st.left:Int)==0)=false:=beq_eq_false_iff_ne.2 (by omega)
   have hlm:((st.left:Int)==-1)=false:=beq_eq_false_iff_ne.2 (by omega)
   rcases ayi with hk|hk
   ·rw[hk]at hw1 x0 hV⊢
    clear h h1 hB hraw wR hra abj hnp hfit hlr hz hoff qg kS pE kP qN hBW hb X hk hh
    go_enter Tryz.func104,Tryz.ntmps104
    go_wp2_with fail
    go_region_law (refine fB rfl (.tmp 41) (.tmp 43) 73 rfl wv (.slice (some ⟨W.heap.size,0,none⟩) 1 1) (by first|rfl|(simp[Act.eval];done)) (by first|rfl|(simp[Act.eval];done)) X2.out ?_;rintro v5 w5 ⟨J,d7,g7,a5,n5,c5,rfl⟩;have J:=hide J)
    all_goals
     go_wp2
     go_ret
     exact⟨rfl,J.out⟩
   ·rw[hk]at hw1 x0 hV⊢
    clear h h1 hB hraw wR hra abj hnp hfit hlr hz hoff qg kS pE kP qN hBW hb X hk hh
    go_enter Tryz.func104,Tryz.ntmps104
    go_wp2_with fail
    go_region_law (refine fB rfl (.tmp 41) (.tmp 43) 73 rfl wv (.slice (some ⟨W.heap.size,0,none⟩) 1 1) (by first|rfl|(simp[Act.eval];done)) (by first|rfl|(simp[Act.eval];done)) X2.out ?_;rintro v5 w5 ⟨J,d7,g7,a5,n5,c5,rfl⟩;have J:=hide J)
    all_goals
     go_wp2
     go_ret
     exact⟨rfl,J.out⟩
end Go.Proofs.YtpifdeoepppadaaGreatDoor
namespace Go.Proofs.YtpifdeoepppadaaGreatDoor
open Go.RowKit Go.Shelf
set_option linter.unusedVariables false
theorem aqy (st:Dm.Ds)(n:Nat)(hn:n=st.wait.length):({st with sure:=Dm.dof st.sure (st.wait.take n),wait:=st.wait.drop n}:Dm.Ds)=Dm.flush st:=by
 subst hn
 simp[Dm.flush]
theorem alx (p:Nat)(F:Nat→Prop)(w:World)(st:Dm.Ds)(h:Pk p F w st)(hsz:∀f,(st.sure f).length+Dm.bulk st.wait≤140737488355000)(hlen:st.wait.length≤1000000)(hl:st.left≤9223372036854775807)(hc:st.count<9223372036854775807):
  Calls Tryz.prog 104 #[.pointer (some ⟨p,0,none⟩),.agg #[.int .i64 2,.int .i64 0,.slice none 0 0,.int .i64 0]] w fun E w'=>E=.returned (.int .i64 (if Dm.off st then 6 else 0))∧aP p F w w' (if Dm.off st then Dm.iK st else Dm.flush (Dm.cO st)):=by
 obtain⟨s,wv,rs,h,rfl⟩:=h
 obtain⟨w1,hw1,bH,ax,hB⟩:=ay w #[.int .i64 2,.int .i64 0,.slice none 0 0,.int .i64 0] 132
 have h1:=h.below ax
 have c1:=h1.c1
 have c2:=h1.c2
 have c8:=h1.c8
 have f1:=h1.kQ 1
 have f2:=h1.kQ 2
 have f8:=h1.kQ 8
 have hpw:p<w.heap.size:=aA h.blk
 have hlr:=h.fP.len
 obtain⟨ao,cap,hv,_,_⟩:=h.fP.row.row.shape
 by_cases hoff:Dm.off st=true
 ·rw[hoff,if_pos rfl,if_pos rfl]
  have hz:dQ st=0:=by
   simp[Dm.off]at hoff
   simp[dQ,hoff.1,hoff.2]
  obtain⟨R1,R2⟩:=h1.set (st':=Dm.iK st) 1 (.bool false) rfl rfl rfl
  have HR:Hid (aP p (FB p s wv rs) w (w1.setCell ⟨p,1,none⟩ (.bool false)) (Dm.iK st)):=hide (aP.pre ax (aP.acP R1 R2))
  rw[hz]at c2
  clear h h1 R1 R2 hB hlr hz hoff hv
  go_enter Tryz.func104,Tryz.ntmps104
  go_wp2
  go_ret
  exact⟨rfl,HR.out⟩
 ·have qg:Dm.off st=false:=by simpa using hoff
  rw[qg,if_neg (by simp),if_neg (by simp)]
  have tail:∀W,fM p W (Dm.cO st) s wv rs→Out (FB p s wv rs) w1 W→Hid (Calls Tryz.prog 96 #[.pointer (some ⟨p,0,none⟩),.int .i64 rs.length] W fun E w'=>(∃v,E=.returned v)∧aP p (FB p s wv rs) w w' (Dm.flush (Dm.cO st))):=fun W hP hO=>hide (by
   refine(abV p _ W (Dm.cO st) rs.length ⟨s,wv,rs,hP,rfl⟩ (by have:(Dm.cO st).wait=st.wait:=rfl;rw[this];omega) hsz hlen).mono ?_
   rintro E w' ⟨hE,hS⟩
   rw[aqy _ _ (by have:(Dm.cO st).wait=st.wait:=rfl;rw[this];omega)]at hS
   exact⟨hE,(hS.trans hO fun g hg=>.inl hg).pre ax⟩)
  have hcw:IntKind.i64.wrap ((st.count:Int)+1)=(st.count:Int)+1:=jU _ (by omega) (by omega)
  cases hh:st.has
  ·have hz:dQ st=-1:=by simp[dQ,hh]
   obtain⟨W,hW,pE,kP,szW,qN⟩:=count_tail h1 hh
   have hBW:=(qN w.heap.size (by omega)).trans hB
   have x0:W.cell? ⟨w.heap.size,0,none⟩=some (.int .i64 2):=ai hBW 0 rfl
   have w7:W.cell? ⟨p,7,none⟩=some wv:=pE.c7
   have T:=tail W pE kP
   rw[hv]at w7
   rw[hz]at c2
   clear h h1 hB hlr hz hoff qg hv pE kP qN hBW hh tail
   go_enter Tryz.func104,Tryz.ntmps104
   go_wp2_with fail
   refine T.out.mono ?_
   rintro E w5 ⟨⟨v5,rfl⟩,J⟩
   have J:=hide J
   go_wp2
   go_ret
   exact⟨rfl,J.out⟩
  ·have hl1:1≤st.left:=by
    simp[Dm.off,hh]at hoff
    omega
   have hz:dQ st=st.left:=by simp[dQ,hh]
   obtain⟨U,W,hU,hW,u8,fu8,pE,kP,szW,qN⟩:=aen h1 hh hl1
   have hBW:=(qN w.heap.size (by omega)).trans hB
   have x0:W.cell? ⟨w.heap.size,0,none⟩=some (.int .i64 2):=ai hBW 0 rfl
   have w7:W.cell? ⟨p,7,none⟩=some wv:=pE.c7
   have T:=tail W pE kP
   rw[hv]at w7
   rw[hz]at c2
   have hlw:IntKind.i64.wrap ((st.left:Int)-1)=(st.left:Int)-1:=jU _ (by omega) (by omega)
   have hl0:((st.left:Int)==0)=false:=beq_eq_false_iff_ne.2 (by omega)
   have hlm:((st.left:Int)==-1)=false:=beq_eq_false_iff_ne.2 (by omega)
   clear h h1 hB hlr hz hoff qg hv pE kP qN hBW hh tail
   go_enter Tryz.func104,Tryz.ntmps104
   go_wp2_with fail
   refine T.out.mono ?_
   rintro E w5 ⟨⟨v5,rfl⟩,J⟩
   have J:=hide J
   go_wp2
   go_ret
   exact⟨rfl,J.out⟩
theorem ady {α β:Type}(b:Bool)(x y:α)(u v:β):(if b=true then(x,u)else(y,v))=((if b=true then x else y),if b=true then u else v):=by cases b<;>rfl
theorem nT (p:Nat)(F:Nat→Prop)(w:World)(st:Dm.Ds)(h:Pk p F w st)(hsz:∀f,(st.sure f).length+Dm.bulk st.wait≤140737488355000)(hlen:st.wait.length≤1000000)(hl:st.left≤9223372036854775807)(hc:st.count<9223372036854775807):
  Calls Tryz.prog 138 #[.pointer (some ⟨p,0,none⟩)] w fun E w'=>E=.returned (.int .i64 (Dm.sync st).1)∧aP p F w w' (Dm.sync st).2:=by
 have HA:=hide (jk p F w st h)
 have HD:=hide (alx p F w st h hsz hlen hl hc)
 have HK:=hide h
 clear h
 unfold Dm.sync
 cases hon:st.on
 ·rw[if_pos rfl]
  have hk:=nZ hon
  clear hon
  go_enter Tryz.func138,Tryz.ntmps138
  go_wp2_with fail
  refine HA.out.mono ?_
  rintro E w1 ⟨rfl,rfl⟩
  rw[hk]
  go_wp2
  go_ret
  exact⟨rfl,aP.same HK.out (Below.refl _ _)⟩
 ·rw[if_neg (by simp),ady]
  have hk:=oJ hon
  generalize (if Dm.off st=true then(6:Int)else 0)=e at HD⊢
  generalize (if Dm.off st=true then Dm.iK st else Dm.flush (Dm.cO st))=st' at HD⊢
  clear hon
  go_enter Tryz.func138,Tryz.ntmps138
  go_wp2_with fail
  refine HA.out.mono ?_
  rintro E w1 ⟨rfl,rfl⟩
  rw[hk]
  go_wp2_with fail
  refine HD.out.mono ?_
  rintro E w2 ⟨rfl,J⟩
  have J:=hide J
  go_wp2
  go_ret
  exact⟨rfl,J.out⟩
def mR (st:Dm.Ds) (file:Int):Int:=if st.on=false then 6 else if Dm.iV file=false then 2 else 0
def mV (st:Dm.Ds) (file:Int):List Int:=if st.on=false then []else if Dm.iV file=false then []else Dm.hold file.toNat (st.sure file.toNat) st.wait
theorem adV {file:Int}(h:Dm.iV file=true):∃f:Nat,f<4∧file=f:=by
 simp[Dm.iV]at h
 exact⟨file.toNat,by omega,by omega⟩
theorem kI (p:Nat)(F:Nat→Prop)(w:World)(st:Dm.Ds)(file:Int)(h:Pk p F w st)(hsz:∀f,(st.sure f).length+Dm.bulk st.wait≤140737488355000)(hlen:st.wait.length≤1000000):
  Calls Tryz.prog 84 #[.pointer (some ⟨p,0,none⟩),.int .i64 file] w fun E w'=>∃v,E=.returned (.tuple #[v,.int .i64 (mR st file)])∧Own .u8 5 w.heap.size w' v (mV st file)∧Below w.heap.size w w':=by
 have HA:=hide (jk p F w st h)
 have HF:=hide (qy file w)
 cases hon:st.on
 ·have e1:mR st file=6:=by simp[mR,hon]
  have e2:mV st file=[]:=by simp[mV,hon]
  rw[e1,e2]
  have hk:=nZ hon
  clear hon h e1 e2
  go_enter Tryz.func84,Tryz.ntmps84
  go_wp2_with fail
  refine HA.out.mono ?_
  rintro E w1 ⟨rfl,rfl⟩
  rw[hk]
  go_wp2
  refine bodyPost_ret (results_tmp2 rfl _ _ _) rfl ?_
  exact⟨_,rfl,Own.nil _ _ _ _,Below.refl _ _⟩
 ·have hk:=oJ hon
  cases hin:Dm.iV file
  ·have e1:mR st file=2:=by simp[mR,hon,hin]
   have e2:mV st file=[]:=by simp[mV,hon,hin]
   rw[e1,e2]
   rw[hin]at HF
   clear hon h e1 e2 hin
   go_enter Tryz.func84,Tryz.ntmps84
   go_wp2_with fail
   refine HA.out.mono ?_
   rintro E w1 ⟨rfl,rfl⟩
   rw[hk]
   go_wp2_with fail
   refine HF.out.mono ?_
   rintro E w1 ⟨rfl,rfl⟩
   go_wp2
   refine bodyPost_ret (results_tmp2 rfl _ _ _) rfl ?_
   exact⟨_,rfl,Own.nil _ _ _ _,Below.refl _ _⟩
  ·obtain⟨f,hf,rfl⟩:=adV hin
   have e1:mR st f=0:=by simp[mR,hon,hin]
   have e2:mV st f=Dm.hold f (st.sure f) st.wait:=by simp[mV,hon,hin]
   rw[e1,e2]
   rw[hin]at HF
   have HH:=hide (ahh p F w st f h hf (hsz f) hlen)
   clear hon h e1 e2 hin
   go_enter Tryz.func84,Tryz.ntmps84
   go_wp2_with fail
   refine HA.out.mono ?_
   rintro E w1 ⟨rfl,rfl⟩
   rw[hk]
   go_wp2_with fail
   refine HF.out.mono ?_
   rintro E w1 ⟨rfl,rfl⟩
   go_wp2_with fail
   refine HH.out.mono ?_
   rintro E w2 ⟨v2,rfl,bq,aB⟩
   go_wp2
   refine bodyPost_ret (results_tmp2 rfl _ _ _) rfl ?_
   exact⟨_,rfl,bq,aB⟩
theorem aP.azO {p:Nat}{F:Nat→Prop}{w w':World}{st':Dm.Ds}{v:Value}(h:PDo p F w st' v w')(hv:v.ownBlock=none):aP p F w w' st':=by
 obtain⟨F',h1,h2,h3⟩:=h
 refine⟨F',h1,h2,fun g hg=>?_⟩
 rcases h3 g hg with h|h|h
 ·exact .inl h
 ·exact .inr h
 ·rw[hv]at h;cases h
end Go.Proofs.YtpifdeoepppadaaGreatDoor
namespace Go.Proofs.YtpifdeoepppadaaGreatDoor
open Go.RowKit Go.Shelf
set_option linter.unusedVariables false
theorem adu (p:Nat)(F:Nat→Prop)(w:World)(st:Dm.Ds)(file len:Int)(h:Pk p F w st)(hsz:∀f,(st.sure f).length+Dm.bulk st.wait≤140737488355000)(hlen:st.wait.length≤1000000)(hl:st.left≤9223372036854775807)(hc:st.count<9223372036854775807):
  Calls Tryz.prog 142 #[.pointer (some ⟨p,0,none⟩),.int .i64 file,.int .i64 len] w fun E w'=>E=.returned (.int .i64 (Dm.bg st file len).1)∧aP p F w w' (Dm.bg st file len).2:=by
 have HA:=hide (jk p F w st h)
 have HF:=hide (qy file w)
 have HK:=hide h
 unfold Dm.bg
 cases hon:st.on
 ·rw[if_pos rfl]
  have hk:=nZ hon
  clear hon h
  go_enter Tryz.func142,Tryz.ntmps142
  go_wp2_with fail
  refine HA.out.mono ?_
  rintro E w1 ⟨rfl,rfl⟩
  rw[hk]
  go_wp2
  go_ret
  exact⟨rfl,aP.same HK.out (Below.refl _ _)⟩
 ·rw[if_neg (by simp)]
  have hk:=oJ hon
  cases hin:Dm.iV file
  ·rw[if_pos rfl]
   rw[hin]at HF
   clear hon h hin
   go_enter Tryz.func142,Tryz.ntmps142
   go_wp2_with fail
   refine HA.out.mono ?_
   rintro E w1 ⟨rfl,rfl⟩
   rw[hk]
   go_wp2_with fail
   refine HF.out.mono ?_
   rintro E w1 ⟨rfl,rfl⟩
   go_wp2
   go_ret
   exact⟨rfl,aP.same HK.out (Below.refl _ _)⟩
  ·rw[if_neg (by simp)]
   rw[hin]at HF
   obtain⟨f,hf,rfl⟩:=adV hin
   rw[Int.toNat_natCast]
   by_cases hneg:len<0
   ·rw[if_pos (.inl hneg)]
    clear hon h hin
    go_enter Tryz.func142,Tryz.ntmps142
    go_wp2_with fail
    refine HA.out.mono ?_
    rintro E w1 ⟨rfl,rfl⟩
    rw[hk]
    go_wp2_with fail
    refine HF.out.mono ?_
    rintro E w1 ⟨rfl,rfl⟩
    go_wp2
    go_ret
    exact⟨rfl,aP.same HK.out (Below.refl _ _)⟩
   ·obtain⟨l,rfl⟩:∃l:Nat,len=l:=⟨len.toNat,by omega⟩
    have hhl:=Dm.kD st.wait (st.sure f) f
    have agn:=hsz f
    have HH:=hide (ahh p F w st f h hf agn hlen)
    by_cases hbig:(Dm.hold f (st.sure f) st.wait).length<l
    ·rw[if_pos (.inr (by omega))]
     have hgt:((Dm.hold f (st.sure f) st.wait).length:Int)<(l:Int):=by omega
     obtain⟨H,hH⟩:∃H,H=Dm.hold f (st.sure f) st.wait:=⟨_,rfl⟩
     rw[←hH]at HH hgt
     clear hon h hin hbig hhl hH
     go_enter Tryz.func142,Tryz.ntmps142
     go_wp2_with fail
     refine HA.out.mono ?_
     rintro E w1 ⟨rfl,rfl⟩
     rw[hk]
     go_wp2_with fail
     refine HF.out.mono ?_
     rintro E w1 ⟨rfl,rfl⟩
     go_wp2_with fail
     refine HH.out.mono ?_
     rintro E w2 ⟨v2,rfl,bq,aB⟩
     obtain⟨a2,k2,hv2,_,_⟩:=bq.is.shape
     subst hv2
     go_wp2
     go_ret
     exact⟨rfl,aP.same HK.out aB⟩
    ·rw[if_neg (by omega),ady]
     have hgt:¬((Dm.hold f (st.sure f) st.wait).length:Int)<(l:Int):=by omega
     have HD:Hid (∀w2,Below w.heap.size w w2→Calls Tryz.prog 104 #[.pointer (some ⟨p,0,none⟩),.agg #[.int .i64 1,.int .i64 f,.slice none 0 0,.int .i64 l]] w2 fun E w'=>E=.returned (.int .i64 (if Dm.off st then 6 else 0))∧aP p F w w' (if Dm.off st then Dm.iK st else Dm.push (Dm.cO st) ⟨f,true,l,[]⟩)):=hide fun w2 hb=>by
      refine(abW p F w2 st ⟨f,true,l,.slice none 0 0,[]⟩ (h.below hb) (yZ.nil _ _) (fun b hb=>by simp[Value.ownBlock]at hb) ⟨hf,fun _=>by rw[←Dm.eX];show l≤(Dm.hold f (st.sure f) st.wait).length;omega,fun hc=>by simp[Rv.r]at hc⟩ hlen hl hc).mono ?_
      rintro E w' ⟨rfl,J⟩
      exact⟨rfl,(aP.azO J rfl).pre hb⟩
     obtain⟨H,hH⟩:∃H,H=Dm.hold f (st.sure f) st.wait:=⟨_,rfl⟩
     rw[←hH]at HH hgt
     have hneg':¬(l:Int)<0:=hneg
     rw[Int.toNat_natCast]
     generalize (if Dm.off st=true then(6:Int)else 0)=e at HD⊢
     generalize (if Dm.off st=true then Dm.iK st else Dm.push (Dm.cO st) ⟨f,true,l,[]⟩)=st' at HD⊢
     clear hon h hin hbig hhl hH hneg
     go_enter Tryz.func142,Tryz.ntmps142
     go_wp2_with fail
     refine HA.out.mono ?_
     rintro E w1 ⟨rfl,rfl⟩
     rw[hk]
     go_wp2_with fail
     refine HF.out.mono ?_
     rintro E w1 ⟨rfl,rfl⟩
     go_wp2_with fail
     refine HH.out.mono ?_
     rintro E w2 ⟨v2,rfl,bq,aB⟩
     obtain⟨a2,k2,hv2,_,_⟩:=bq.is.shape
     subst hv2
     go_wp2_with fail
     refine(HD.out w2 aB).mono ?_
     rintro E w3 ⟨rfl,J⟩
     have J:=hide J
     go_wp2
     go_ret
     exact⟨rfl,J.out⟩
end Go.Proofs.YtpifdeoepppadaaGreatDoor
namespace Go.Proofs.YtpifdeoepppadaaGreatDoor
open Go.RowKit Go.Shelf
set_option linter.unusedVariables false
attribute [local go_sem] Oper.semAt_some
abbrev Cx (L:Nat):={i:Nat // i*64<L}
def cnt (L:Nat):Nat:=(L+63) / 64
def up (L:Nat):Nat→List (Cx L)
 |0=>[]
 |k+1=>up L k++(if h:k*64<L then [⟨k,h⟩]else [])
theorem qJ (L k:Nat)(h:k*64<L):up L (k+1)=up L k++[⟨k,h⟩]:=by rw[up,dif_pos h]
theorem af4 (L:Nat):∀k,k≤cnt L→(up L k).length=k
 |0,_=>rfl
 |k+1,h=>by
  have h1:k*64<L:=by unfold cnt at h;omega
  rw[qJ L k h1,List.length_append,af4 L k (by omega)]
  rfl
def yG (b off L i:Nat):Value:=.slice (some ⟨b,off+i*64,none⟩) (min 64 (L-i*64)) (min 64 (L-i*64))
def Kc (Bs Bn:Nat) (W W':World):Prop:=W'.heap[Bs]? =W.heap[Bs]?∧W'.heap[Bn]? =W.heap[Bn]?
theorem Kc.trans {Bs Bn:Nat}{A B C:World}(h:Kc Bs Bn A B)(k:Kc Bs Bn B C):Kc Bs Bn A C:=⟨k.1.trans h.1,k.2.trans h.2⟩
theorem cell_of_heap {W W':World}{B:Nat}(h:W'.heap[B]? =W.heap[B]?)(j:Nat):W'.cell? ⟨B,j,none⟩=W.cell? ⟨B,j,none⟩:=World.cell?_of_block (show W'.heap[(⟨B,j,none⟩:Addr).block]? =W.heap[(⟨B,j,none⟩:Addr).block]? from h)
theorem aag (b off L cap q m:Nat)(hL:L=q+m)(hm:0<m)(hcap:L≤cap)(hcm:cap≤maxLen)(e:Nat)(he:0<e)(hem:e≤m):
  (∀ty wx,(Builtin.len_ #[71] ty #[.slice (some ⟨b,off,none⟩) L cap]).run Tryz.prog wx=.ok (.int .i64 L) wx)∧
  (∀wx,(Instr.slice 71 (.slice (some ⟨b,off,none⟩) L cap) (some (.int .i64 q)) none none).run Tryz.prog wx=.ok (.slice (some ⟨b,off+q,none⟩) m (cap-q)) wx)∧
  ∀wx,(Instr.slice 71 (.slice (some ⟨b,off,none⟩) L cap) (some (.int .i64 q)) (some (.int .i64 ((q:Int)+e))) (some (.int .i64 ((q:Int)+e)))).run Tryz.prog wx=.ok (.slice (some ⟨b,off+q,none⟩) e e) wx:=by
 have hu:=Tryz.underlying71
 refine⟨fun ty wx=>by simp[Builtin.len_,run_underlying hu,goInt],fun wx=>?_,fun wx=>?_⟩
 ·rw[run_slice_l wx 71 (some ⟨b,off,none⟩) L cap Tryz.lG .i64 _ (by omega) (by omega),Tryz.nC]
  have h1:¬cap=q:=by omega
  have h2:L-q=m:=by omega
  simp[Result.andThen,sliced,h1,h2,fD]
 ·rw[run_slice_lhm wx 71 (some ⟨b,off,none⟩) L cap Tryz.lG .i64 .i64 .i64 _ _ _ (by omega) (by omega) (by omega) (by omega),Tryz.nC]
  have h1:¬((q:Int)+e).toNat=q:=by omega
  have h2:((q:Int)+e).toNat-q=e:=by omega
  simp[Result.andThen,sliced,h1,h2,fD]
theorem amV (n:Nat)(hn:1≤n)(l Bs Bn b off L cap:Nat)(sv:Value)(hsv:sv=.slice (some ⟨b,off,none⟩) L cap∨(L=0∧∃ao c,sv=.slice ao 0 c))(hcap:L≤cap)(hcm:cap≤maxLen)(sU:L≤140737488355328)(J Jx:List (Cx L)→World→Prop)(W:World)(hJ:AbidesFrom W.heap.size J)
  (hY:∀pre x W1,J pre W1→pre.length<cnt L→YieldAt Fence.wide (n-1) Tryz.prog l #[yG b off L x.1] W1 fun e W'=>(e=.returned (.bool true)∧J (pre++[x]) W'∧Kc Bs Bn W1 W')∨(e=.returned (.bool false)∧Jx (pre++[x]) W'))
  (hBs:W.cell? ⟨Bs,0,none⟩=some sv) (hBn:W.cell? ⟨Bn,0,none⟩=some (.int .i64 64)) (h0:J [] W):
  CallsIn Fence.wide n Tryz.prog 152 #[.func (.yield l) #[] #[],.pointer (some ⟨Bs,0,none⟩),.pointer (some ⟨Bn,0,none⟩)] W fun e W'=>(∃v,e=.returned v)∧((∃xs,xs=up L (cnt L)∧J xs W')∨(∃pre,(∃k,k≤cnt L∧pre=up L k)∧Jx pre W')):=by
 have hro:Fence.wide.round=none:=rfl
 have hlen0:∀ty wx,(Builtin.len_ #[71] ty #[sv]).run Tryz.prog wx=.ok (.int .i64 L) wx:=by
  rcases hsv with rfl|⟨rfl,ao,c,rfl⟩
  ·intro ty wx;simp[Builtin.len_,run_underlying Tryz.underlying71,goInt]
  ·intro ty wx;simp[Builtin.len_,run_underlying Tryz.underlying71,goInt]
 refine callsIn_of_wp Tryz.func152 rfl trivial ?_ hro
 simp only[Tryz.ntmps152,List.size_toArray,List.length_cons,List.length_nil,Nat.reduceAdd,Nat.reduceSub,Array.replicate_succ,Array.replicate_zero,List.push_toArray,List.append_toArray,List.nil_append,List.cons_append]
 gi_wp2
 gi_loopw [4] (fun iv wr=>∃k:Nat,k≤cnt L∧iv=.int .i64 (k*64:Nat)∧Hid (J (up L k) wr)∧Kc Bs Bn W wr) (fun iv _=>(L+64)-(intOf iv).toNat)
 case atStart=>exact⟨0,Nat.zero_le _,rfl,h0,⟨rfl,rfl⟩⟩
 case round=>
  obtain⟨k,hk,rfl,HJ,hK⟩:=hrel
  have cs:wr.cell? ⟨Bs,0,none⟩=some sv:=(cell_of_heap hK.1 0).trans hBs
  have cn:wr.cell? ⟨Bn,0,none⟩=some (.int .i64 64):=(cell_of_heap hK.2 0).trans hBn
  obtain⟨q,hq⟩:∃q,q=k*64:=⟨_,rfl⟩
  rw[←hq]
  by_cases hlt:q<L
  ·obtain⟨m,hm⟩:∃m,L=q+m:=⟨L-q,by omega⟩
   have pY:k*64<L:=by omega
   have alm:sv=.slice (some ⟨b,off,none⟩) L cap:=by
    rcases hsv with h|⟨h,_⟩
    ·exact h
    ·omega
   have JD:J (up L k) wr.drew:=hJ _ wr wr.drew none HJ.out ⟨rfl,rfl,rfl,Nat.le_refl _,fun _ _ _=>rfl⟩ (fun r e=>by cases e)
   have hlt':(q:Int)<L:=by omega
   by_cases hsm:m<64
   ·have ev:yG b off L k=.slice (some ⟨b,off+q,none⟩) m m:=by
     have h1:min 64 (L-k*64)=m:=by omega
     unfold yG
     rw[h1,←hq]
    obtain⟨f1,f2,f3⟩:=aag b off L cap q m hm (by omega) hcap hcm m (by omega) (by omega)
    rw[←alm]at f2 f3
    obtain⟨fn,tmps,assign,body,hy,hR⟩:=hY _ ⟨k,pY⟩ wr.drew JD (by rw[af4 L k hk];unfold cnt;omega)
    dsimp only at hy
    rw[ev]at hy
    have hmi:(m:Int)<64:=by omega
    have hw1:IntKind.i64.wrap ((q:Int)+(m:Nat))=(q:Int)+(m:Nat):=jU _ (by omega) (by omega)
    have hw2:IntKind.i64.wrap ((q:Int)+64)=(q:Int)+64:=jU _ (by omega) (by omega)
    have HR:=hide hR
    have HQ:=hide hq
    have HM:=hide hm
    clear f1 hR ev hsv alm hq hm JD hY hBs hBn hJ h0
    gi_wp2
    gi_region
    all_goals
     gi_wp2
     refine HR.out.mono ?_
     rintro e W3 (⟨rfl,hJ3,hk3⟩|⟨rfl,hJx3⟩)
     ·have cs3:W3.cell? ⟨Bs,0,none⟩=some sv:=(cell_of_heap hk3.1 0).trans cs
      have cn3:W3.cell? ⟨Bn,0,none⟩=some (.int .i64 64):=(cell_of_heap hk3.2 0).trans cn
      have qZ:Hid (J (up L (k+1)) W3):=hide (by rw[qJ L k pY];exact hJ3)
      have hK4:Kc Bs Bn W W3:=hK.trans hk3
      clear hJ3
      gi_wp2
      go_roundw
      case rel=>exact⟨k+1,by unfold cnt;omega,by have:=HQ.out;congr 1;omega,qZ,hK4⟩
      case measure=>simp[intOf];have:=HQ.out;omega
     ·have qZ:Hid (Jx (up L (k+1)) W3):=hide (by rw[qJ L k pY];exact hJx3)
      clear hJx3
      gi_wp2
      refine bodyPost_ret (results_none rfl _ _ _) rfl ?_
      exact⟨⟨_,rfl⟩,.inr ⟨_,⟨k+1,by unfold cnt;omega,rfl⟩,qZ.out⟩⟩
   ·have ev:yG b off L k=.slice (some ⟨b,off+q,none⟩) 64 64:=by
     have h1:min 64 (L-k*64)=64:=by omega
     unfold yG
     rw[h1,←hq]
    obtain⟨f1,f2,f3⟩:=aag b off L cap q m hm (by omega) hcap hcm 64 (by omega) (by omega)
    rw[←alm]at f2 f3
    have f4:∀wx,(Instr.slice 71 sv (some (.int .i64 q)) (some (.int .i64 ((q:Int)+64))) (some (.int .i64 ((q:Int)+64)))).run Tryz.prog wx=.ok (.slice (some ⟨b,off+q,none⟩) 64 64) wx:=f3
    clear f3
    obtain⟨fn,tmps,assign,body,hy,hR⟩:=hY _ ⟨k,pY⟩ wr.drew JD (by rw[af4 L k hk];unfold cnt;omega)
    dsimp only at hy
    rw[ev]at hy
    have hmi:¬(m:Int)<64:=by omega
    have hw2:IntKind.i64.wrap ((q:Int)+64)=(q:Int)+64:=jU _ (by omega) (by omega)
    have HR:=hide hR
    have HQ:=hide hq
    have HM:=hide hm
    clear f1 hR ev hsv alm hq hm JD hY hBs hBn hJ h0
    gi_wp2
    gi_region
    all_goals
     gi_wp2
     refine HR.out.mono ?_
     rintro e W3 (⟨rfl,hJ3,hk3⟩|⟨rfl,hJx3⟩)
     ·have cs3:W3.cell? ⟨Bs,0,none⟩=some sv:=(cell_of_heap hk3.1 0).trans cs
      have cn3:W3.cell? ⟨Bn,0,none⟩=some (.int .i64 64):=(cell_of_heap hk3.2 0).trans cn
      have qZ:Hid (J (up L (k+1)) W3):=hide (by rw[qJ L k pY];exact hJ3)
      have hK4:Kc Bs Bn W W3:=hK.trans hk3
      clear hJ3
      gi_wp2
      go_roundw
      case rel=>exact⟨k+1,by unfold cnt;omega,by have:=HQ.out;congr 1;omega,qZ,hK4⟩
      case measure=>simp[intOf];have:=HQ.out;omega
     ·have qZ:Hid (Jx (up L (k+1)) W3):=hide (by rw[qJ L k pY];exact hJx3)
      clear hJx3
      gi_wp2
      refine bodyPost_ret (results_none rfl _ _ _) rfl ?_
      exact⟨⟨_,rfl⟩,.inr ⟨_,⟨k+1,by unfold cnt;omega,rfl⟩,qZ.out⟩⟩
  ·have hlt':¬(q:Int)<L:=by omega
   obtain rfl:k=cnt L:=by unfold cnt at hk⊢;omega
   clear hq
   gi_wp2
   go_end0
   exact⟨⟨_,rfl⟩,.inl HJ.out⟩
theorem alR (v:Value)(hv:∃a n c,v=.slice a n c)(w:World):Calls Tryz.prog 103 #[v,.int .i64 64] w fun e w'=>e=.returned (.func (.func 152) #[] #[.pointer (some ⟨w.heap.size,0,none⟩),.pointer (some ⟨w.heap.size+1,0,none⟩)])∧w'=(w.alloc (.cells #[v] 71)).alloc (.cells #[.int .i64 64] 3):=by
 obtain⟨a,n,c,rfl⟩:=hv
 go_enter Tryz.func103,Tryz.ntmps103
 go_wp2
 go_ret
 exact⟨rfl,rfl⟩
end Go.Proofs.YtpifdeoepppadaaGreatDoor
