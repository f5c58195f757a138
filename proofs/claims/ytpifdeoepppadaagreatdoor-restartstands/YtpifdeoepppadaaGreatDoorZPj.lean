/- Texts of one layer, one behind the other. -/
import Derived.Test.YtpifdeoepppadaaGreatDoorG15
set_option maxRecDepth 100000
set_option maxHeartbeats 8000000
namespace Go.Proofs.YtpifdeoepppadaaGreatDoor
open Go.RowKit Go.Shelf
set_option linter.unusedVariables false
theorem amr (st:Dm.Ds)(k t n:Nat)(hn:n=min k st.wait.length):torn {st with sure:=Dm.dof st.sure (st.wait.take n),wait:=st.wait.drop n} t=Dm.kept st k t:=by
 unfold torn Dm.kept
 simp only[List.getElem?_drop,Nat.add_zero]
 by_cases h:k<st.wait.length
 ·have:n=k:=by omega
  subst this
  rfl
 ·have h1:n=st.wait.length:=by omega
  rw[h1,List.getElem?_eq_none (Nat.le_refl _),List.getElem?_eq_none (by omega),List.take_of_length_le (Nat.le_refl _),List.take_of_length_le (by omega)]
theorem aj4 (l:List Dm.Rw)(n:Nat):Dm.bulk (l.take n)+Dm.bulk (l.drop n)=Dm.bulk l:=by
 rw[←Dm.vX,List.take_append_drop]
theorem anS (p:Nat)(F:Nat→Prop)(w:World)(st:Dm.Ds)(k t:Int)(h:Pk p F w st)(ht:t≤9223372036854775807)(hsz:∀f,(st.sure f).length+Dm.bulk st.wait≤140737488355000)(hlen:st.wait.length≤1000000):
  Calls Tryz.prog 29 #[.pointer (some ⟨p,0,none⟩),.int .i64 k,.int .i64 t] w fun E w'=>E=.returned (.int .i64 (Dm.start st k t).1)∧aP p F w w' (Dm.start st k t).2:=by
 have HA:=hide (wG p F w st h)
 have HK:=hide h
 obtain⟨s,wv,rs,h,rfl⟩:=h
 have c1:=h.c1
 unfold Dm.start
 cases hon:st.on
 ·rw[hon]at c1
  by_cases hk:k<0
  ·rw[if_pos (.inr (.inl hk))]
   clear h hon
   go_enter Tryz.func29,Tryz.ntmps29
   go_wp2_with fail
   refine HA.out.mono ?_
   rintro E w1 ⟨rfl,rfl⟩
   go_wp2
   go_ret
   exact⟨rfl,aP.same HK.out (Below.refl _ _)⟩
  ·by_cases htn:t<0
   ·rw[if_pos (.inr (.inr htn))]
    clear h hon
    go_enter Tryz.func29,Tryz.ntmps29
    go_wp2_with fail
    refine HA.out.mono ?_
    rintro E w1 ⟨rfl,rfl⟩
    go_wp2
    go_ret
    exact⟨rfl,aP.same HK.out (Below.refl _ _)⟩
   ·rw[if_neg (by simp;omega)]
    have c7:=h.c7
    have hlr:=h.fP.len
    obtain⟨ao,cap,hv,_,_⟩:=h.fP.row.row.shape
    obtain⟨kn,rfl⟩:∃x:Nat,k=x:=⟨k.toNat,by omega⟩
    obtain⟨tn,rfl⟩:∃x:Nat,t=x:=⟨t.toNat,by omega⟩
    obtain⟨n,hn⟩:∃n,n=min kn st.wait.length:=⟨_,rfl⟩
    have hcase:(rs.length<kn∧rs.length=n)∨(¬rs.length<kn∧kn=n):=by omega
    have HS:=hide (abV p (FB p s wv rs) w st n ⟨s,wv,rs,h,rfl⟩ (by omega) hsz hlen)
    have hsz1:∀f,(Dm.dof st.sure (st.wait.take n) f).length+Dm.bulk (st.wait.drop n)≤140737488355000:=fun f=>by
     have h1:=zS st.sure (st.wait.take n) f
     have h2:=aj4 st.wait n
     have h3:=hsz f
     omega
    have HZ:=hide hsz1
    have HT:=hide (amr st kn tn n hn)
    simp only[Int.toNat_natCast]
    rw[hv]at c7
    have hk':¬(kn:Int)<0:=hk
    have ht':¬(tn:Int)<0:=htn
    have HL:=hide (show(st.wait.drop n).length≤1000000 by rw[List.length_drop];omega)
    rcases hcase with⟨hx,rfl⟩|⟨hx,rfl⟩
    all_goals
     have hxi:=hx
     rw[←Int.ofNat_lt]at hxi
     clear h hon hsz1 hn hk htn hlr
     go_enter Tryz.func29,Tryz.ntmps29
     go_wp2_with fail
     refine HA.out.mono ?_
     rintro E w1 ⟨rfl,rfl⟩
     go_wp2_with fail
     refine HS.out.mono ?_
     rintro E w2 ⟨⟨v2,rfl⟩,S2⟩
     obtain⟨F2,K2,O2,I2⟩:=S2
     have HTE:=hide (aoR p F2 w2 _ tn K2 (by omega) HZ.out HL.out)
     have HO2:=hide O2
     have HI2:=hide I2
     clear K2 O2 I2
     go_wp2_with fail
     refine HTE.out.mono ?_
     rintro E w3 ⟨⟨v3,rfl⟩,s3,wv3,rs3,B3,C3,O3,I3⟩
     have hC4:jm w3 (Dm.kept st kn tn) [] s3 (.slice none 0 0) []:=by
      rw[HT.out]at C3
      exact⟨C3.file,C3.apart,gG.nil _ _ _ _ _,fun r hr=>by simp at hr,fun r hr=>by simp at hr,rfl⟩
     have c7':w3.cell? ⟨p,7,none⟩=some wv3:=ai B3 7 rfl
     have f7':=az B3 7
     obtain⟨w4,hw4⟩:∃w4,w3.setCell ⟨p,7,none⟩ (.slice none 0 0)=w4:=⟨_,rfl⟩
     have B4:w4.heap[p]? =some (.cells (eZ s3 (.slice none 0 0) st.on (dQ st) st.count) 75 (0,0)):=by rw[←hw4,aL B3];rfl
     have hC5:jm w4 (Dm.kept st kn tn) [] s3 (.slice none 0 0) []:=by rw[←hw4];exact hC4.but B3 (by decide) (by decide) fun b hb _=>Below.heap_setCell _ _ _ _ hb
     have c2':w4.cell? ⟨p,2,none⟩=some (.int .i64 (dQ st)):=ai B4 2 rfl
     have f2':=az B4 2
     obtain⟨w5,kL⟩:∃w5,w4.setCell ⟨p,2,none⟩ (.int .i64 (-1))=w5:=⟨_,rfl⟩
     have B5:w5.heap[p]? =some (.cells (eZ s3 (.slice none 0 0) st.on (-1) st.count) 75 (0,0)):=by rw[←kL,aL B4];rfl
     have hC6:jm w5 (Dm.kept st kn tn) [] s3 (.slice none 0 0) []:=by rw[←kL];exact hC5.but B4 (by decide) (by decide) fun b hb _=>Below.heap_setCell _ _ _ _ hb
     have c1':w5.cell? ⟨p,1,none⟩=some (.bool st.on):=ai B5 1 rfl
     have f1':=az B5 1
     obtain⟨R1,R2⟩:=fM.put (st':={st with sure:=Dm.kept st kn tn,wait:=[],has:=false,on:=true}) (s':=s3) (wv':=.slice none 0 0) (rs':=[]) B5 1 (.bool true) rfl hC6 trivial
     have J:Hid (aP p (FB p s wv rs) w (w5.setCell ⟨p,1,none⟩ (.bool true)) {st with sure:=Dm.kept st kn tn,wait:=[],has:=false,on:=true}):=hide (by
      have pO:∀{A:World} (j:Nat) (u:Value),Out (fun g=>g=p) A (A.setCell ⟨p,j,none⟩ u):=fun {A} j u=>Out.aT (aC A ⟨p,j,none⟩ u) fun g hg=>by simp at hg;exact hg.symm
      have q1:Out F2 w2 w4:=by rw[←hw4];exact O3.trans (pO 7 _) fun g hg=>by subst hg;exact I3 _ (.inl rfl)
      have hp2:F2 p∨w2.heap.size≤p:=I3 p (.inl rfl)
      have q2:Out F2 w2 w5:=by rw[←kL];exact q1.trans (pO 2 _) fun g hg=>by subst hg;exact hp2
      have q3:Out F2 w2 (w5.setCell ⟨p,1,none⟩ (.bool true)):=q2.trans R2 fun g hg=>by subst hg;exact hp2
      refine⟨_,⟨s3,_,[],R1,rfl⟩,HO2.out.trans q3 HI2.out,fun g hg=>?_⟩
      have h1:F2 g∨w2.heap.size≤g:=by
       rcases hg with h1|h1|h1|⟨r,hr,_⟩
       ·exact I3 g (.inl h1)
       ·exact I3 g (.inr (.inl h1))
       ·simp[Value.ownBlock]at h1
       ·simp at hr
      rcases h1 with h1|h1
      ·exact HI2.out g h1
      ·exact .inr (Nat.le_trans HO2.out.size h1))
     clear R1 R2 B3 B4 B5 C3 hC4 hC5 hC6 O3 I3
     go_wp2
     go_ret
     exact⟨rfl,J.out⟩
 ·rw[hon]at c1
  rw[if_pos (.inl rfl)]
  clear h hon
  go_enter Tryz.func29,Tryz.ntmps29
  go_wp2_with fail
  refine HA.out.mono ?_
  rintro E w1 ⟨rfl,rfl⟩
  go_wp2
  go_ret
  exact⟨rfl,aP.same HK.out (Below.refl _ _)⟩
end Go.Proofs.YtpifdeoepppadaaGreatDoor
