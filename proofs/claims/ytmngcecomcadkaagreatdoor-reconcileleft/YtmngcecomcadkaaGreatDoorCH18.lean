/- Texts of one layer, one behind the other. -/
import Derived.Test.YtmngcecomcadkaaGreatDoorCH17
set_option maxRecDepth 100000
set_option maxHeartbeats 8000000
namespace Go.Proofs.YtmngcecomcadkaaGreatDoor
open Go.RowKit Go.Shelf
set_option linter.unusedVariables false
theorem apw (st:Dm.Ds)(n:Nat)(hn:n=st.wait.length):({st with sure:=Dm.dof st.sure (st.wait.take n),wait:=st.wait.drop n}:Dm.Ds)=Dm.flush st:=by
 subst hn
 simp[Dm.flush]
theorem aic (p:Nat)(F:Nat→Prop)(w:World)(st:Dm.Ds)(h:Pk p F w st)(hsz:∀f,(st.sure f).length+Dm.gm st.wait≤140737488355000)(hlen:st.wait.length≤1000000)(hl:st.left≤9223372036854775807)(hc:st.count<9223372036854775807):
  Calls Tryz.prog 100 #[.pointer (some ⟨p,0,none⟩),.agg #[.int .i64 2,.int .i64 0,.slice none 0 0,.int .i64 0]] w fun E w'=>E=.returned (.int .i64 (if Dm.off st then 6 else 0))∧aV p F w w' (if Dm.off st then Dm.ig st else Dm.flush (Dm.bB st)):=by
 obtain⟨s,wv,rs,h,rfl⟩:=h
 obtain⟨w1,hw1,aT,aj,hB⟩:=ak w #[.int .i64 2,.int .i64 0,.slice none 0 0,.int .i64 0] 152
 have h1:=h.below aj
 have c1:=h1.c1
 have c2:=h1.c2
 have c8:=h1.c8
 have f1:=h1.lu 1
 have f2:=h1.lu 2
 have f8:=h1.lu 8
 have hpw:p<w.heap.size:=ax h.blk
 have hlr:=h.iO.len
 obtain⟨ao,cap,hv,_,_⟩:=h.iO.row.row.shape
 by_cases hoff:Dm.off st=true
 ·rw[hoff,if_pos rfl,if_pos rfl]
  have hz:eZ st=0:=by
   simp[Dm.off]at hoff
   simp[eZ,hoff.1,hoff.2]
  obtain⟨R1,R2⟩:=h1.set (st':=Dm.ig st) 1 (.bool false) rfl rfl rfl
  have HR:Hid (aV p (FB p s wv rs) w (w1.setCell ⟨p,1,none⟩ (.bool false)) (Dm.ig st)):=hide (aV.pre aj (aV.akJ R1 R2))
  rw[hz]at c2
  clear h h1 R1 R2 hB hlr hz hoff hv
  go_enter Tryz.func100,Tryz.ntmps100
  go_wp2
  go_ret
  exact⟨rfl,HR.out⟩
 ·have pO:Dm.off st=false:=by simpa using hoff
  rw[pO,if_neg (by simp),if_neg (by simp)]
  have tail:∀W,fH p W (Dm.bB st) s wv rs→Out (FB p s wv rs) w1 W→Hid (Calls Tryz.prog 138 #[.pointer (some ⟨p,0,none⟩),.int .i64 rs.length] W fun E w'=>(∃v,E=.returned v)∧aV p (FB p s wv rs) w w' (Dm.flush (Dm.bB st))):=fun W hP hO=>hide (by
   refine(ajw p _ W (Dm.bB st) rs.length ⟨s,wv,rs,hP,rfl⟩ (by have:(Dm.bB st).wait=st.wait:=rfl;rw[this];omega) hsz hlen).mono ?_
   rintro E w' ⟨hE,hS⟩
   rw[apw _ _ (by have:(Dm.bB st).wait=st.wait:=rfl;rw[this];omega)]at hS
   exact⟨hE,(hS.trans hO fun g hg=>.inl hg).pre aj⟩)
  have hcw:IntKind.i64.wrap ((st.count:Int)+1)=(st.count:Int)+1:=kF _ (by omega) (by omega)
  cases hh:st.has
  ·have hz:eZ st=-1:=by simp[eZ,hh]
   obtain⟨W,hW,oH,jT,szW,ql⟩:=count_tail h1 hh
   have hBW:=(ql w.heap.size (by omega)).trans hB
   have x0:W.cell? ⟨w.heap.size,0,none⟩=some (.int .i64 2):=ai hBW 0 rfl
   have w7:W.cell? ⟨p,7,none⟩=some wv:=oH.c7
   have T:=tail W oH jT
   rw[hv]at w7
   rw[hz]at c2
   clear h h1 hB hlr hz hoff pO hv oH jT ql hBW hh tail
   go_enter Tryz.func100,Tryz.ntmps100
   go_wp2_with fail
   refine T.out.mono ?_
   rintro E w5 ⟨⟨v5,rfl⟩,J⟩
   have J:=hide J
   go_wp2
   go_ret
   exact⟨rfl,J.out⟩
  ·have hl1:1≤st.left:=by
    simp[Dm.off,hh]at hoff
    omega
   have hz:eZ st=st.left:=by simp[eZ,hh]
   obtain⟨U,W,hU,hW,u8,fu8,oH,jT,szW,ql⟩:=acP h1 hh hl1
   have hBW:=(ql w.heap.size (by omega)).trans hB
   have x0:W.cell? ⟨w.heap.size,0,none⟩=some (.int .i64 2):=ai hBW 0 rfl
   have w7:W.cell? ⟨p,7,none⟩=some wv:=oH.c7
   have T:=tail W oH jT
   rw[hv]at w7
   rw[hz]at c2
   have hlw:IntKind.i64.wrap ((st.left:Int)-1)=(st.left:Int)-1:=kF _ (by omega) (by omega)
   have hl0:((st.left:Int)==0)=false:=beq_eq_false_iff_ne.2 (by omega)
   have hlm:((st.left:Int)==-1)=false:=beq_eq_false_iff_ne.2 (by omega)
   clear h h1 hB hlr hz hoff pO hv oH jT ql hBW hh tail
   go_enter Tryz.func100,Tryz.ntmps100
   go_wp2_with fail
   refine T.out.mono ?_
   rintro E w5 ⟨⟨v5,rfl⟩,J⟩
   have J:=hide J
   go_wp2
   go_ret
   exact⟨rfl,J.out⟩
theorem abD {α β:Type}(b:Bool)(x y:α)(u v:β):(if b=true then(x,u)else(y,v))=((if b=true then x else y),if b=true then u else v):=by cases b<;>rfl
theorem uX (p:Nat)(F:Nat→Prop)(w:World)(st:Dm.Ds)(h:Pk p F w st)(hsz:∀f,(st.sure f).length+Dm.gm st.wait≤140737488355000)(hlen:st.wait.length≤1000000)(hl:st.left≤9223372036854775807)(hc:st.count<9223372036854775807):
  Calls Tryz.prog 119 #[.pointer (some ⟨p,0,none⟩)] w fun E w'=>E=.returned (.int .i64 (Dm.sync st).1)∧aV p F w w' (Dm.sync st).2:=by
 have HA:=hide (kS p F w st h)
 have HD:=hide (aic p F w st h hsz hlen hl hc)
 have HK:=hide h
 clear h
 unfold Dm.sync
 cases hon:st.on
 ·rw[if_pos rfl]
  have hk:=tC hon
  clear hon
  go_enter Tryz.func119,Tryz.ntmps119
  go_wp2_with fail
  refine HA.out.mono ?_
  rintro E w1 ⟨rfl,rfl⟩
  rw[hk]
  go_wp2
  go_ret
  exact⟨rfl,aV.same HK.out (Below.refl _ _)⟩
 ·rw[if_neg (by simp),abD]
  have hk:=sI hon
  generalize (if Dm.off st=true then(6:Int)else 0)=e at HD⊢
  generalize (if Dm.off st=true then Dm.ig st else Dm.flush (Dm.bB st))=st' at HD⊢
  clear hon
  go_enter Tryz.func119,Tryz.ntmps119
  go_wp2_with fail
  refine HA.out.mono ?_
  rintro E w1 ⟨rfl,rfl⟩
  rw[hk]
  go_wp2_with fail
  refine HD.out.mono ?_
  rintro E w2 ⟨rfl,J⟩
  have J:=hide J
  go_wp2
  go_ret
  exact⟨rfl,J.out⟩
def lY (st:Dm.Ds) (file:Int):Int:=if st.on=false then 6 else if Dm.iW file=false then 2 else 0
def lI (st:Dm.Ds) (file:Int):List Int:=if st.on=false then []else if Dm.iW file=false then []else Dm.hold file.toNat (st.sure file.toNat) st.wait
def duB (st:Dm.Ds) (file:Int):List Int:=if Dm.iW file=false then []else st.sure file.toNat
theorem yz {file:Int}(h:Dm.iW file=true):∃f:Nat,f<4∧file=f:=by
 simp[Dm.iW]at h
 exact⟨file.toNat,by omega,by omega⟩
theorem ji (p:Nat)(F:Nat→Prop)(w:World)(st:Dm.Ds)(file:Int)(h:Pk p F w st)(hsz:∀f,(st.sure f).length+Dm.gm st.wait≤140737488355000)(hlen:st.wait.length≤1000000):
  Calls Tryz.prog 104 #[.pointer (some ⟨p,0,none⟩),.int .i64 file] w fun E w'=>∃v,E=.returned (.tuple #[v,.int .i64 (lY st file)])∧Own .u8 5 w.heap.size w' v (lI st file)∧Below w.heap.size w w':=by
 have HA:=hide (kS p F w st h)
 have HF:=hide (mK file w)
 cases hon:st.on
 ·have e1:lY st file=6:=by simp[lY,hon]
  have e2:lI st file=[]:=by simp[lI,hon]
  rw[e1,e2]
  have hk:=tC hon
  clear hon h e1 e2
  go_enter Tryz.func104,Tryz.ntmps104
  go_wp2_with fail
  refine HA.out.mono ?_
  rintro E w1 ⟨rfl,rfl⟩
  rw[hk]
  go_wp2
  refine bodyPost_ret (results_tmp2 rfl _ _ _) rfl ?_
  exact⟨_,rfl,Own.nil _ _ _ _,Below.refl _ _⟩
 ·have hk:=sI hon
  cases hin:Dm.iW file
  ·have e1:lY st file=2:=by simp[lY,hon,hin]
   have e2:lI st file=[]:=by simp[lI,hon,hin]
   rw[e1,e2]
   rw[hin]at HF
   clear hon h e1 e2 hin
   go_enter Tryz.func104,Tryz.ntmps104
   go_wp2_with fail
   refine HA.out.mono ?_
   rintro E w1 ⟨rfl,rfl⟩
   rw[hk]
   go_wp2_with fail
   refine HF.out.mono ?_
   rintro E w1 ⟨rfl,rfl⟩
   go_wp2
   refine bodyPost_ret (results_tmp2 rfl _ _ _) rfl ?_
   exact⟨_,rfl,Own.nil _ _ _ _,Below.refl _ _⟩
  ·obtain⟨f,hf,rfl⟩:=yz hin
   have e1:lY st f=0:=by simp[lY,hon,hin]
   have e2:lI st f=Dm.hold f (st.sure f) st.wait:=by simp[lI,hon,hin]
   rw[e1,e2]
   rw[hin]at HF
   have HH:=hide (afz p F w st f h hf (hsz f) hlen)
   clear hon h e1 e2 hin
   go_enter Tryz.func104,Tryz.ntmps104
   go_wp2_with fail
   refine HA.out.mono ?_
   rintro E w1 ⟨rfl,rfl⟩
   rw[hk]
   go_wp2_with fail
   refine HF.out.mono ?_
   rintro E w1 ⟨rfl,rfl⟩
   go_wp2_with fail
   refine HH.out.mono ?_
   rintro E w2 ⟨v2,rfl,aP,au⟩
   go_wp2
   refine bodyPost_ret (results_tmp2 rfl _ _ _) rfl ?_
   exact⟨_,rfl,aP,au⟩
theorem yZ (p:Nat)(F:Nat→Prop)(w:World)(st:Dm.Ds)(file:Int)(h:Pk p F w st)(hsz:∀f,(st.sure f).length+Dm.gm st.wait≤140737488355000):
  Calls Tryz.prog 19 #[.pointer (some ⟨p,0,none⟩),.int .i64 file] w fun E w'=>∃v,E=.returned v∧Own .u8 5 w.heap.size w' v (duB st file)∧Below w.heap.size w w':=by
 have HA:=hide (zx p F w st h)
 have HF:=hide (mK file w)
 cases hin:Dm.iW file
 ·have e2:duB st file=[]:=by simp[duB,hin]
  rw[e2]
  rw[hin]at HF
  clear h e2 hin
  go_enter Tryz.func19,Tryz.ntmps19
  go_wp2_with fail
  refine HA.out.mono ?_
  rintro E w1 ⟨rfl,rfl⟩
  go_wp2_with fail
  refine HF.out.mono ?_
  rintro E w1 ⟨rfl,rfl⟩
  go_wp2
  go_ret
  exact⟨_,rfl,Own.nil _ _ _ _,Below.refl _ _⟩
 ·obtain⟨f,hf,rfl⟩:=yz hin
  have e2:duB st f=st.sure f:=by simp[duB,hin]
  rw[e2]
  rw[hin]at HF
  obtain⟨s,wv,rs,h,rfl⟩:=h
  have cf:=h.cf f hf
  have hl:=hsz f
  have HC:=hide (pX (s f) (st.sure f) w (h.iO.file f hf).is (by omega))
  have hf0:(0:Int)≤(f:Int):=by omega
  have hf4:(f:Int)<4:=by omega
  clear h e2 hin
  go_enter Tryz.func19,Tryz.ntmps19
  go_wp2_with fail
  refine HA.out.mono ?_
  rintro E w1 ⟨rfl,rfl⟩
  go_wp2_with fail
  refine HF.out.mono ?_
  rintro E w1 ⟨rfl,rfl⟩
  go_wp2_with fail
  refine HC.out.mono ?_
  rintro E w2 ⟨v2,rfl,aP,au⟩
  go_wp2
  go_ret
  exact⟨_,rfl,aP,au⟩
theorem aV.axz {p:Nat}{F:Nat→Prop}{w w':World}{st':Dm.Ds}{v:Value}(h:PDo p F w st' v w')(hv:v.ownBlock=none):aV p F w w' st':=by
 obtain⟨F',h1,h2,h3⟩:=h
 refine⟨F',h1,h2,fun g hg=>?_⟩
 rcases h3 g hg with h|h|h
 ·exact .inl h
 ·exact .inr h
 ·rw[hv]at h;cases h
end Go.Proofs.YtmngcecomcadkaaGreatDoor
namespace Go.Proofs.YtmngcecomcadkaaGreatDoor
open Go.RowKit Go.Shelf
set_option linter.unusedVariables false
theorem ahc (p:Nat)(F:Nat→Prop)(w:World)(st:Dm.Ds)(file len:Int)(h:Pk p F w st)(hsz:∀f,(st.sure f).length+Dm.gm st.wait≤140737488355000)(hlen:st.wait.length≤1000000)(hl:st.left≤9223372036854775807)(hc:st.count<9223372036854775807):
  Calls Tryz.prog 145 #[.pointer (some ⟨p,0,none⟩),.int .i64 file,.int .i64 len] w fun E w'=>E=.returned (.int .i64 (Dm.cK st file len).1)∧aV p F w w' (Dm.cK st file len).2:=by
 have HA:=hide (kS p F w st h)
 have HF:=hide (mK file w)
 have HK:=hide h
 unfold Dm.cK
 cases hon:st.on
 ·rw[if_pos rfl]
  have hk:=tC hon
  clear hon h
  go_enter Tryz.func145,Tryz.ntmps145
  go_wp2_with fail
  refine HA.out.mono ?_
  rintro E w1 ⟨rfl,rfl⟩
  rw[hk]
  go_wp2
  go_ret
  exact⟨rfl,aV.same HK.out (Below.refl _ _)⟩
 ·rw[if_neg (by simp)]
  have hk:=sI hon
  cases hin:Dm.iW file
  ·rw[if_pos rfl]
   rw[hin]at HF
   clear hon h hin
   go_enter Tryz.func145,Tryz.ntmps145
   go_wp2_with fail
   refine HA.out.mono ?_
   rintro E w1 ⟨rfl,rfl⟩
   rw[hk]
   go_wp2_with fail
   refine HF.out.mono ?_
   rintro E w1 ⟨rfl,rfl⟩
   go_wp2
   go_ret
   exact⟨rfl,aV.same HK.out (Below.refl _ _)⟩
  ·rw[if_neg (by simp)]
   rw[hin]at HF
   obtain⟨f,hf,rfl⟩:=yz hin
   rw[Int.toNat_natCast]
   by_cases hneg:len<0
   ·rw[if_pos (.inl hneg)]
    clear hon h hin
    go_enter Tryz.func145,Tryz.ntmps145
    go_wp2_with fail
    refine HA.out.mono ?_
    rintro E w1 ⟨rfl,rfl⟩
    rw[hk]
    go_wp2_with fail
    refine HF.out.mono ?_
    rintro E w1 ⟨rfl,rfl⟩
    go_wp2
    go_ret
    exact⟨rfl,aV.same HK.out (Below.refl _ _)⟩
   ·obtain⟨l,rfl⟩:∃l:Nat,len=l:=⟨len.toNat,by omega⟩
    have hhl:=Dm.lH st.wait (st.sure f) f
    have apc:=hsz f
    have HH:=hide (afz p F w st f h hf apc hlen)
    by_cases hbig:(Dm.hold f (st.sure f) st.wait).length<l
    ·rw[if_pos (.inr (by omega))]
     have hgt:((Dm.hold f (st.sure f) st.wait).length:Int)<(l:Int):=by omega
     obtain⟨H,hH⟩:∃H,H=Dm.hold f (st.sure f) st.wait:=⟨_,rfl⟩
     rw[←hH]at HH hgt
     clear hon h hin hbig hhl hH
     go_enter Tryz.func145,Tryz.ntmps145
     go_wp2_with fail
     refine HA.out.mono ?_
     rintro E w1 ⟨rfl,rfl⟩
     rw[hk]
     go_wp2_with fail
     refine HF.out.mono ?_
     rintro E w1 ⟨rfl,rfl⟩
     go_wp2_with fail
     refine HH.out.mono ?_
     rintro E w2 ⟨v2,rfl,aP,au⟩
     obtain⟨a2,k2,hv2,_,_⟩:=aP.is.shape
     subst hv2
     go_wp2
     go_ret
     exact⟨rfl,aV.same HK.out au⟩
    ·rw[if_neg (by omega),abD]
     have hgt:¬((Dm.hold f (st.sure f) st.wait).length:Int)<(l:Int):=by omega
     have HD:Hid (∀w2,Below w.heap.size w w2→Calls Tryz.prog 100 #[.pointer (some ⟨p,0,none⟩),.agg #[.int .i64 1,.int .i64 f,.slice none 0 0,.int .i64 l]] w2 fun E w'=>E=.returned (.int .i64 (if Dm.off st then 6 else 0))∧aV p F w w' (if Dm.off st then Dm.ig st else Dm.push (Dm.bB st) ⟨f,true,l,[]⟩)):=hide fun w2 hb=>by
      refine(abj p F w2 st ⟨f,true,l,.slice none 0 0,[]⟩ (h.below hb) (xI.nil _ _) (fun b hb=>by simp[Value.ownBlock]at hb) ⟨hf,fun _=>by rw[←Dm.jD];show l≤(Dm.hold f (st.sure f) st.wait).length;omega,fun hc=>by simp[Rv.r]at hc⟩ hlen hl hc).mono ?_
      rintro E w' ⟨rfl,J⟩
      exact⟨rfl,(aV.axz J rfl).pre hb⟩
     obtain⟨H,hH⟩:∃H,H=Dm.hold f (st.sure f) st.wait:=⟨_,rfl⟩
     rw[←hH]at HH hgt
     have hneg':¬(l:Int)<0:=hneg
     rw[Int.toNat_natCast]
     generalize (if Dm.off st=true then(6:Int)else 0)=e at HD⊢
     generalize (if Dm.off st=true then Dm.ig st else Dm.push (Dm.bB st) ⟨f,true,l,[]⟩)=st' at HD⊢
     clear hon h hin hbig hhl hH hneg
     go_enter Tryz.func145,Tryz.ntmps145
     go_wp2_with fail
     refine HA.out.mono ?_
     rintro E w1 ⟨rfl,rfl⟩
     rw[hk]
     go_wp2_with fail
     refine HF.out.mono ?_
     rintro E w1 ⟨rfl,rfl⟩
     go_wp2_with fail
     refine HH.out.mono ?_
     rintro E w2 ⟨v2,rfl,aP,au⟩
     obtain⟨a2,k2,hv2,_,_⟩:=aP.is.shape
     subst hv2
     go_wp2_with fail
     refine(HD.out w2 au).mono ?_
     rintro E w3 ⟨rfl,J⟩
     have J:=hide J
     go_wp2
     go_ret
     exact⟨rfl,J.out⟩
end Go.Proofs.YtmngcecomcadkaaGreatDoor
