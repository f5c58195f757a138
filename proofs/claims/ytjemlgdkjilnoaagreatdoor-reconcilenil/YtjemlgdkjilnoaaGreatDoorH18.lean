/- Texts of one layer, one behind the other. -/
import Derived.Test.YtjemlgdkjilnoaaGreatDoorH15
set_option maxRecDepth 100000
set_option maxHeartbeats 8000000
namespace Go.Proofs.YtjemlgdkjilnoaaGreatDoor
open Go.RowKit Go.Shelf
set_option linter.unusedVariables false
theorem ahA (p:Nat)(F:Nat→Prop)(w:World)(st:Dm.Ds)(file len:Int)(h:Pk p F w st)(hsz:∀f,(st.sure f).length+Dm.gq st.wait≤140737488355000)(hlen:st.wait.length≤1000000)(hl:st.left≤9223372036854775807)(hc:st.count<9223372036854775807):
  Calls Tryz.prog 127 #[.pointer (some ⟨p,0,none⟩),.int .i64 file,.int .i64 len] w fun E w'=>E=.returned (.int .i64 (Dm.bG st file len).1)∧aY p F w w' (Dm.bG st file len).2:=by
 have HA:=hide (kT p F w st h)
 have HF:=hide (mg file w)
 have HK:=hide h
 unfold Dm.bG
 cases hon:st.on
 ·rw[if_pos rfl]
  have hk:=sM hon
  clear hon h
  go_enter Tryz.func127,Tryz.ntmps127
  go_wp2_with fail
  refine HA.out.mono ?_
  rintro E w1 ⟨rfl,rfl⟩
  rw[hk]
  go_wp2
  go_ret
  exact⟨rfl,aY.same HK.out (Below.refl _ _)⟩
 ·rw[if_neg (by simp)]
  have hk:=si hon
  cases hin:Dm.iU file
  ·rw[if_pos rfl]
   rw[hin]at HF
   clear hon h hin
   go_enter Tryz.func127,Tryz.ntmps127
   go_wp2_with fail
   refine HA.out.mono ?_
   rintro E w1 ⟨rfl,rfl⟩
   rw[hk]
   go_wp2_with fail
   refine HF.out.mono ?_
   rintro E w1 ⟨rfl,rfl⟩
   go_wp2
   go_ret
   exact⟨rfl,aY.same HK.out (Below.refl _ _)⟩
  ·rw[if_neg (by simp)]
   rw[hin]at HF
   obtain⟨f,hf,rfl⟩:=yw hin
   rw[Int.toNat_natCast]
   by_cases hneg:len<0
   ·rw[if_pos (.inl hneg)]
    clear hon h hin
    go_enter Tryz.func127,Tryz.ntmps127
    go_wp2_with fail
    refine HA.out.mono ?_
    rintro E w1 ⟨rfl,rfl⟩
    rw[hk]
    go_wp2_with fail
    refine HF.out.mono ?_
    rintro E w1 ⟨rfl,rfl⟩
    go_wp2
    go_ret
    exact⟨rfl,aY.same HK.out (Below.refl _ _)⟩
   ·obtain⟨l,rfl⟩:∃l:Nat,len=l:=⟨len.toNat,by omega⟩
    have hhl:=Dm.kZ st.wait (st.sure f) f
    have amu:=hsz f
    have HH:=hide (ae4 p F w st f h hf amu hlen)
    by_cases hbig:(Dm.hold f (st.sure f) st.wait).length<l
    ·rw[if_pos (.inr (by omega))]
     have hgt:((Dm.hold f (st.sure f) st.wait).length:Int)<(l:Int):=by omega
     obtain⟨H,hH⟩:∃H,H=Dm.hold f (st.sure f) st.wait:=⟨_,rfl⟩
     rw[←hH]at HH hgt
     clear hon h hin hbig hhl hH
     go_enter Tryz.func127,Tryz.ntmps127
     go_wp2_with fail
     refine HA.out.mono ?_
     rintro E w1 ⟨rfl,rfl⟩
     rw[hk]
     go_wp2_with fail
     refine HF.out.mono ?_
     rintro E w1 ⟨rfl,rfl⟩
     go_wp2_with fail
     refine HH.out.mono ?_
     rintro E w2 ⟨v2,rfl,aT,au⟩
     obtain⟨a2,k2,hv2,_,_⟩:=aT.is.shape
     subst hv2
     go_wp2
     go_ret
     exact⟨rfl,aY.same HK.out au⟩
    ·rw[if_neg (by omega),ack]
     have hgt:¬((Dm.hold f (st.sure f) st.wait).length:Int)<(l:Int):=by omega
     have HD:Hid (∀w2,Below w.heap.size w w2→Calls Tryz.prog 76 #[.pointer (some ⟨p,0,none⟩),.agg #[.int .i64 1,.int .i64 f,.slice none 0 0,.int .i64 l]] w2 fun E w'=>E=.returned (.int .i64 (if Dm.off st then 6 else 0))∧aY p F w w' (if Dm.off st then Dm.iw st else Dm.push (Dm.bH st) ⟨f,true,l,[]⟩)):=hide fun w2 hb=>by
      refine(aau p F w2 st ⟨f,true,l,.slice none 0 0,[]⟩ (h.below hb) (wD.nil _ _) (fun b hb=>by simp[Value.ownBlock]at hb) ⟨hf,fun _=>by rw[←Dm.fG];show l≤(Dm.hold f (st.sure f) st.wait).length;omega,fun hc=>by simp[Rv.r]at hc⟩ hlen hl hc).mono ?_
      rintro E w' ⟨rfl,J⟩
      exact⟨rfl,(aY.awY J rfl).pre hb⟩
     obtain⟨H,hH⟩:∃H,H=Dm.hold f (st.sure f) st.wait:=⟨_,rfl⟩
     rw[←hH]at HH hgt
     have hneg':¬(l:Int)<0:=hneg
     rw[Int.toNat_natCast]
     generalize (if Dm.off st=true then(6:Int)else 0)=e at HD⊢
     generalize (if Dm.off st=true then Dm.iw st else Dm.push (Dm.bH st) ⟨f,true,l,[]⟩)=st' at HD⊢
     clear hon h hin hbig hhl hH hneg
     go_enter Tryz.func127,Tryz.ntmps127
     go_wp2_with fail
     refine HA.out.mono ?_
     rintro E w1 ⟨rfl,rfl⟩
     rw[hk]
     go_wp2_with fail
     refine HF.out.mono ?_
     rintro E w1 ⟨rfl,rfl⟩
     go_wp2_with fail
     refine HH.out.mono ?_
     rintro E w2 ⟨v2,rfl,aT,au⟩
     obtain⟨a2,k2,hv2,_,_⟩:=aT.is.shape
     subst hv2
     go_wp2_with fail
     refine(HD.out w2 au).mono ?_
     rintro E w3 ⟨rfl,J⟩
     have J:=hide J
     go_wp2
     go_ret
     exact⟨rfl,J.out⟩
end Go.Proofs.YtjemlgdkjilnoaaGreatDoor
