/- Texts of one layer, one behind the other. -/
import Derived.Test.YtjemlgdkjilnoaaGreatDoorH16
import Derived.Test.YtjemlgdkjilnoaaGreatDoorH10
import Derived.Test.YtjemlgdkjilnoaaGreatDoorH17
import Derived.Test.YtjemlgdkjilnoaaGreatDoorH8
import Derived.Test.YtjemlgdkjilnoaaGreatDoorH4
import Derived.Test.YtjemlgdkjilnoaaGreatDoorH2
set_option maxRecDepth 100000
set_option maxHeartbeats 8000000
namespace Go.Proofs.YtjemlgdkjilnoaaGreatDoor
open Go.RowKit
set_option linter.unusedVariables false
def zB (l:List Cm.Cv) (n most:Int):List Cm.Cv:=if n<1∨(l.length:Int)<n∨most<1 then []else(l.drop (n.toNat-1)).take most.toNat
theorem wP (p q:Nat)(F:Nat→Prop)(w:World)(s:Wl.Ws)(n most:Int)(h:WW p q F w s):
  Calls Tryz.prog 49 #[.pointer (some ⟨p,0,none⟩),.int .i64 n,.int .i64 most] w fun E w'=>∃v rs,E=.returned v∧bD 65 w.heap.size w' v rs∧dZ w.heap.size w' rs∧az rs=zB s.l n most∧ApC rs∧Below w.heap.size w w':=by
 obtain⟨F1,G1,h1,⟨vc,ve,rs,hv,rfl⟩,rfl⟩:=h
 have HM:=hide (oh p q w #[] _ _ _ hv.blk)
 have c2:w.cell? ⟨p,2,none⟩=some vc:=ai hv.blk 2 rfl
 have HE:=hide (jB p 2 w vc rs c2 hv.log.r.row.row)
 have hlen:=hv.log.len
 rw[hlen]at HE
 have hgl:=eG hv.log.good
 have rU:Hid (∀W m,W=w.drewN m→n<1∨(s.l.length:Int)<n∨most<1→bD 65 w.heap.size W (.slice none 0 0) []∧dZ w.heap.size W []∧az []=zB s.l n most∧ApC []∧Below w.heap.size w W):=hide fun W m hW hc=>by
  subst hW
  exact⟨bD.nil _ _ _,fun c hc=>by simp at hc,by unfold zB;rw[if_pos hc];rfl,fun i j c d _ hc=>by simp at hc,below_drewN (Below.refl _ _) m⟩
 by_cases a1:n<1
 ·clear hv h1 HE
  have NO:=hide (rU.out w 0 rfl (.inl a1))
  clear rU
  go_enter Tryz.func49,Tryz.ntmps49
  go_wp2_with fail
  refine HM.out.mono ?_
  rintro E w1 ⟨rfl,rfl⟩
  go_wp2
  go_ret
  exact⟨_,[],rfl,NO.out⟩
 ·by_cases a2:(s.l.length:Int)<n
  ·clear hv h1
   have NO:=hide (rU.out w 0 rfl (.inr (.inl a2)))
   clear rU
   go_enter Tryz.func49,Tryz.ntmps49
   go_wp2_with fail
   refine HM.out.mono ?_
   rintro E w1 ⟨rfl,rfl⟩
   go_wp2_with fail
   refine HE.out.mono ?_
   rintro E w1 ⟨rfl,rfl⟩
   go_wp2
   go_ret
   exact⟨_,[],rfl,NO.out⟩
  ·by_cases a3:most<1
   ·clear hv h1
    have NO:=hide (rU.out w 0 rfl (.inr (.inr a3)))
    clear rU
    go_enter Tryz.func49,Tryz.ntmps49
    go_wp2_with fail
    refine HM.out.mono ?_
    rintro E w1 ⟨rfl,rfl⟩
    go_wp2_with fail
    refine HE.out.mono ?_
    rintro E w1 ⟨rfl,rfl⟩
    go_wp2
    go_ret
    exact⟨_,[],rfl,NO.out⟩
   ·obtain⟨j,rfl⟩:∃j:Nat,n=(j:Int)+1:=⟨(n-1).toNat,by omega⟩
    obtain⟨mm,rfl⟩:∃mm:Nat,most=mm:=⟨most.toNat,by omega⟩
    have hj:j<rs.length:=by omega
    have hfr:zB s.l ((j:Int)+1) mm=(s.l.drop j).take mm:=by
     unfold zB
     rw[if_neg (by omega)]
     congr 2
    obtain⟨b0,off,cap0,mQ,hcap,hcm,_,_⟩:=hv.log.r.row.row.full (by omega)
    obtain⟨v1,hs1,auO⟩:=hv.log.r.row.row.gu Tryz.nM Tryz.nN j hj
    have hv1:v1=.slice (some ⟨b0,off+j*3,none⟩) (rs.length-j) (cap0-j):=by
     have:=hs1 w
     rw[mQ,run_slice_l w 26 _ rs.length cap0 Tryz.nM .i64 _ (by omega) (by omega),Tryz.nN]at this
     have hne:¬cap0=j:=by omega
     simp[Result.andThen,sliced,hne,gB]at this
     exact this.symm
    obtain⟨m,hm⟩:∃m,m=min mm (rs.length-j):=⟨_,rfl⟩
    have hm1:1≤m:=by omega
    have amy:m≤(rs.drop j).length:=by rw[List.length_drop];omega
    obtain⟨v2,hs2,ahO⟩:=auO.jG Tryz.nM Tryz.nN m amy
    have hv2:v2=.slice (some ⟨b0,off+j*3,none⟩) m (cap0-j):=by
     have:=hs2 w
     rw[hv1,run_slice_h w 26 _ (rs.length-j) (cap0-j) Tryz.nM .i64 _ (by omega) (by rw[List.length_drop]at amy;omega),Tryz.nN]at this
     simp[Result.andThen,sliced,Addr.add]at this
     exact this.symm
    obtain⟨rest,hrest⟩:∃rest,rest=(rs.drop j).take m:=⟨_,rfl⟩
    have hrl:rest.length=m:=by rw[hrest,List.length_take];omega
    have hcv:az rest=(s.l.drop j).take mm:=by
     rw[hrest,az,List.map_take,List.map_drop,←az,hv.log.is,hm]
     rw[hlen]
     apply List.ext_getElem?
     intro i
     rw[List.getElem?_take,List.getElem?_take]
     by_cases hi:i<min mm (s.l.length-j)
     ·rw[if_pos hi,if_pos (by omega)]
     ·rw[if_neg hi]
      by_cases hi2:i<mm
      ·rw[if_pos hi2,List.getElem?_drop,List.getElem?_eq_none (by omega)]
      ·rw[if_neg hi2]
    have hin:∀c∈rest,c∈rs:=fun c hc=>List.mem_of_mem_drop (List.mem_of_mem_take (hrest▸hc))
    have apa:Hid (∀W,Below w.heap.size w W→∀c∈rest,df W c.v c.l∧c.l.length*40≤140737488351232):=hide fun W hb c hc=>⟨((hv.log.r.kN c (hin c hc)).is).below hb,by have:=((afq hv.log.good hv.log.is).2 c (hin c hc)).2.2;omega⟩
    have sJ:Hid (Calls Tryz.prog 103 #[v2] w fun e w'=>∃g cap,e=.returned (.slice (some ⟨g,0,none⟩) m cap)∧m≤cap∧zz w w' g m cap rest 0 rest):=hide (by
     refine(aaQ v2 rest w (by rw[hrest];exact ahO) (fun c hc=>(hv.log.r.kN c (hin c hc)).is.one) (by rw[hrl];omega)).mono ?_
     rintro E w' ⟨v,rfl,own,aG⟩
     rcases own.2 with⟨_,h0⟩|⟨g,cap,cur,hvv,_,_,hc,_⟩
     ·omega
     ·refine⟨g,cap,by rw[hvv,hrl],by omega,by rw[←hrl,←hvv];exact own,hrl,rfl,fun c hc=>by simp at hc,rfl,fun i j c d _ hc=>by simp at hc,aG⟩)
    have hwr:IntKind.i64.wrap (((j:Int)+1)-1)=(j:Int):=by rw[aX _ (by omega) (by omega)];omega
    have hne0:¬cap0=j:=by omega
    rw[hv2]at sJ
    rw[mQ]at c2
    rw[hlen]at c2 hm hcap
    have FIN:Hid (∀W g cap rk,zz w W g m cap rest m rk→bD 65 w.heap.size W (.slice (some ⟨g,0,none⟩) m cap) rk∧dZ w.heap.size W rk∧az rk=zB s.l ((j:Int)+1) mm∧ApC rk∧Below w.heap.size w W):=hide fun W g cap rk hF=>by
     have ht:rk.take m=rk:=List.take_of_length_le (by rw[hF.len];omega)
     have h1:=hF.kN
     have h2:=hF.ap
     rw[ht]at h1 h2
     exact⟨hF.row,h1,by rw[hF.is,hcv,hfr],h2,hF.aG⟩
    have HRL:=hide hrl
    have hj':j<s.l.length:=by omega
    have hm3:m≤1048576:=by omega
    clear hv h1 rU auO ahO hv1 hv2 hs1 hs2 hrest hcv hfr hrl hin amy mQ hj hcm
    clear hlen
    have avU:Hid (∀z:Nat,z=m→Calls Tryz.prog 103 #[.slice (some ⟨b0,off+j*3,none⟩) z (cap0-j)] w fun e w'=>∃g cap,e=.returned (.slice (some ⟨g,0,none⟩) m cap)∧m≤cap∧zz w w' g m cap rest 0 rest):=hide fun z hz=>by rw[hz];exact sJ.out
    have HMM:=hide hm
    clear sJ hm
    go_enter Tryz.func49,Tryz.ntmps49
    go_wp2_with fail
    refine HM.out.mono ?_
    rintro E w1 ⟨rfl,rfl⟩
    go_wp2_with fail
    refine HE.out.mono ?_
    rintro E w1 ⟨rfl,rfl⟩
    go_wp2_with fail
    all_goals
     refine(avU.out _ (by rw[HMM.out];omega)).mono ?_
     rintro E w1 ⟨g,cap,rfl,hcp,F0⟩
     have F0:=hide F0
     clear avU HM HE
     go_wp2
     go_loopw [47] (fun iv wr=>∃(k:Nat) (rk:List Cw),k≤m∧iv=.int .i64 k∧Hid (zz w wr g m cap rest k rk)) (fun iv _=>m-(intOf iv).toNat)
     case atStart=>exact⟨0,rest,by omega,rfl,F0⟩
     case round=>
      obtain⟨k,rk,hk,rfl,gF⟩:=hrel
      by_cases hlt:k<m
      ·obtain⟨c,hc⟩:∃c,rest[k]? =some c:=⟨rest[k]'(by rw[HRL.out];omega),by rw[List.getElem?_eq_getElem]⟩
       have hcm:=List.mem_of_getElem? hc
       have vL:rk[k]? =some c:=by
        have e1:(rk.drop k)[0]? =(rest.drop k)[0]? :=by rw[gF.out.left]
        rw[List.getElem?_drop,List.getElem?_drop]at e1
        simpa using e1.trans (by simpa using hc)
       obtain⟨⟨d0,d1,d2⟩,_⟩:=yC gF.out.row gF.out.len k c vL
       obtain⟨wa,hwa,zL,sza,jK,bA,x0,x1,x2⟩:=fH wr 65 (.int .i64 0) (.int .i64 0) (.slice none 0 0) (.int .i64 c.e) (.int .i64 c.n) c.v
       obtain⟨kU,hlo⟩:=apa.out wr gF.out.aG c hcm
       have CP:Hid (Calls Tryz.prog 50 #[.agg #[.int .i64 c.e,.int .i64 c.n,c.v]] wa fun E w2=>∃v2,E=.returned (.agg #[.int .i64 c.e,.int .i64 c.n,v2])∧(∃a n z,v2=.slice a n z)∧(∃W,((w2.setCell ⟨g,k*3,none⟩ (.int .i64 c.e)).setCell ⟨g,k*3+1,none⟩ (.int .i64 c.n)).setCell ⟨g,k*3+2,none⟩ v2=W∧∃rk',zz w W g m cap rest (k+1) rk')∧(w2.cell? ⟨g,k*3,none⟩=some (.int .i64 c.e)∧w2.cell? ⟨g,k*3+1,none⟩=some (.int .i64 c.n)∧w2.cell? ⟨g,k*3+2,none⟩=some c.v)∧(w2.frozen? ⟨g,k*3,none⟩=false∧w2.frozen? ⟨g,k*3+1,none⟩=false∧w2.frozen? ⟨g,k*3+2,none⟩=false)):=hide (by
        refine(oH c.e c.n c.v c.l wa (kU.below jK) hlo).mono ?_
        rintro E w2 ⟨v2,rfl,aT,au⟩
        have b2:Below wr.heap.size wr w2:=jK.trans (au.mono jK.size)
        have hrow2:bD 65 w.heap.size w2 (.slice (some ⟨g,0,none⟩) m cap) rk:=gF.out.row.below b2
        obtain⟨W,hW,oW,gW⟩:=aeb hrow2 gF.out.len k hlt ⟨c.e,c.n,v2,c.l⟩
        obtain⟨y,z⟩:=yC hrow2 gF.out.len k c vL
        exact⟨v2,rfl,(by obtain⟨xa,xc,hx,_⟩:=aT.is.shape;exact⟨_,_,_,hx⟩),⟨W,hW,_,gF.out.next hc hlt (aT.bB jK.size) b2 oW gW⟩,y,z⟩)
       obtain⟨ca,cc,hcv,_,_⟩:=kU.shape
       rw[hcv]at d2 hwa zL x2 CP
       have hlt':(k:Int)<m:=by omega
       clear gF kU hlo vL jK bA hc hcm
       go_wp2_with fail
       refine CP.out.mono ?_
       rintro E w2 ⟨v2,rfl,⟨a2,n2,z2,rfl⟩,⟨W,hW,rk2,F2⟩,⟨y0,y1,y2⟩,⟨f0,f1,f2⟩⟩
       have F2:=hide F2
       clear CP
       go_wp2
       go_roundw
       case rel=>exact⟨k+1,rk2,by omega,by go_num,F2⟩
       case measure=>simp[intOf];omega
      ·obtain rfl:k=m:=by omega
       have hlt':¬(k:Int)<k:=by omega
       have G:=hide (FIN.out _ g cap rk gF.out)
       clear gF
       go_wp2
       go_ret
       first
       |exact⟨_,rk,rfl,G.out⟩
       |exact⟨_,rfl,rk,G.out⟩
end Go.Proofs.YtjemlgdkjilnoaaGreatDoor
