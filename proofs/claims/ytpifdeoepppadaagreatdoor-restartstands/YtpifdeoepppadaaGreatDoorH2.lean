/- Texts of one layer, one behind the other. -/
import Derived.Test.YtpifdeoepppadaaGreatDoorG2
import Derived.Test.YtpifdeoepppadaaGreatDoorG8
import Derived.Test.YtpifdeoepppadaaGreatDoorG6
import Derived.Maps.OwnSet
import Derived.BigQuiet
import Derived.Test.YtpifdeoepppadaaGreatDoorG9
import Derived.Test.YtpifdeoepppadaaGreatDoorG11
set_option maxRecDepth 100000
set_option maxHeartbeats 8000000
namespace Go.Proofs.YtpifdeoepppadaaGreatDoor
open Go.RowKit Go.Maps
open Bm (Ov)
set_option linter.unusedVariables false
theorem Tryz.keyed:Keyed Tryz.prog 9:=string_keyed Tryz.underlying9
def Ren:Value→Option (DataW Unit×List MemPlace)
 |.agg cs=>match cs.toList with
  |[.string s,.bool b]=>some (.agg [.lit (.string s.data.toList),.lit (.bool b)],[])
  |_=>none
 |_=>none
def env (v:ByteArray) (p:Bool):Value:=.agg #[.string v,.bool p]
theorem axl (o:Ov):Ren (env o.v o.p)=some (Tm.el o,[]):=rfl
theorem avt {v:Value}{y:DataW Unit×List MemPlace}(h:Ren v=some y):∃(s:ByteArray) (b:Bool),v=env s b∧y=(.agg [.lit (.string s.data.toList),.lit (.bool b)],[]):=by
 unfold Ren at h
 split at h
 ·rename_i cs
  split at h
  ·rename_i s b hcs
   refine⟨s,b,?_,by simpa using h.symm⟩
   obtain⟨l⟩:=cs
   simp at hcs
   subst hcs
   rfl
  ·simp at h
 ·simp at h
theorem an7 {v:Value}{o:Ov}{ps:List MemPlace}(h:Ren v=some (Tm.el o,ps)):v=env o.v o.p:=by
 obtain⟨s,b,rfl,e⟩:=avt h
 simp only[Tm.el,Ov.vl,Prod.mk.injEq,DataW.agg.injEq,List.cons.injEq,DataW.lit.injEq,Lit.string.injEq,Lit.bool.injEq,and_true]at e
 obtain⟨⟨e1,e2⟩,_⟩:=e
 rw[Bm.qA e1,e2]
theorem aoI {v:Value}{ps:List MemPlace}(h:Ren v=some (.agg [.lit (.string []),.lit (.bool false)],ps)):v=env ⟨#[]⟩ false:=an7 (o:=⟨false,⟨#[]⟩,⟨#[]⟩⟩) h
theorem Tryz.zeroE (w:World):(zeroValue 119).run Tryz.prog w=.ok (env ⟨#[]⟩ false) w:=by kernel_rfl
theorem World.ownsMap.tight {P:Program}{k:TypeId}{R:Value→Option (DataW Unit×List MemPlace)}{w:World}{b n:Nat}{D:DataW Unit}(h:w.ownsMap P k R b n D):w.ownsMap P k R b (Maps.size D) D:=by
 obtain⟨es,clock,hb,F,hs,rfl⟩:=h
 exact⟨es,clock,hb,F,by simp[Maps.size,length_sorted],rfl⟩
structure Tb (p b:Nat) (w:World) (t:List Ov):Prop where
 blk:w.heap[p]? =some (.cells #[.map (some b)] 116 (0,0))
 own:w.ownsMap Tryz.prog 9 Ren b t.length (Tm.dat t)
 up:Tm.Up t
theorem Tb.plt {p b:Nat}{w:World}{t:List Ov}(h:Tb p b w t):p<w.heap.size:=aA h.blk
theorem Tb.blt {p b:Nat}{w:World}{t:List Ov}(h:Tb p b w t):b<w.heap.size:=h.own.lt
theorem Tb.agree {p b:Nat}{w w':World}{t:List Ov}(h:Tb p b w t)(h1:w'.heap[p]? =w.heap[p]?)(h2:w'.heap[b]? =w.heap[b]?):Tb p b w' t:=by
 refine⟨h1.trans h.blk,?_,h.up⟩
 obtain⟨es,clock,hb,r⟩:=h.own
 exact⟨es,clock,h2.trans hb,r⟩
theorem Tb.below {p b:Nat}{w w':World}{t:List Ov}(h:Tb p b w t)(hb:Below w.heap.size w w'):Tb p b w' t:=h.agree (hb.block p h.plt) (hb.block b h.blt)
theorem Tb.cell {p b:Nat}{w:World}{t:List Ov}(h:Tb p b w t):w.cell? ⟨p,0,none⟩=some (.map (some b)):=ai h.blk 0 rfl
theorem Tb.ne {p b:Nat}{w:World}{t:List Ov}(h:Tb p b w t):p≠b:=fun e=>by
 obtain⟨es,clock,hb,_⟩:=h.own
 have:=h.blk
 rw[e,hb]at this
 cases this
theorem Tb.row {p b:Nat}{w:World}{t:List Ov}(h:Tb p b w t){g j:Nat}{u:Value}(hc:w.cell? ⟨g,j,none⟩=some u):g≠b:=fun e=>by
 obtain⟨es,clock,hb,_⟩:=h.own
 subst e
 simp[World.cell?,hb]at hc
theorem aiy (w:World)(d:Nat)(m:Option Nat):(Op.equalIn (d+1) 114 (.map m) (.map none)).run Tryz.prog w=.ok m.isNone w:=by
 have h:=Tryz.underlying114
 cases m<;>simp[Op.equalIn,run_underlying h]
theorem Tryz.aud (w:World)(m:Option Nat):(binOp .neq 114 (.map m) (.map none)).run Tryz.prog w=.ok (.bool (!m.isNone)) w:=by
 simp only[binOp]
 simp[Op.equal,Op.maxDepth,aiy w 9999 m]
theorem sN (p b:Nat)(w:World)(hc:w.cell? ⟨p,0,none⟩=some (.map (some b))):
  Calls Tryz.prog 98 #[.pointer (some ⟨p,0,none⟩)] w fun E w'=>E=.returned (.bool true)∧w=w':=by
 have hn:=Tryz.aud w (some b)
 go_enter Tryz.func98,Tryz.ntmps98
 go_wp2
 go_ret
 exact⟨rfl,rfl⟩
theorem abh (w:World):Calls Tryz.prog 31 #[] w fun E w'=>E=.returned (.pointer (some ⟨w.heap.size+1,0,none⟩))∧Tb (w.heap.size+1) w.heap.size w' []∧Below w.heap.size w w':=by
 obtain⟨w1,hw1⟩:∃w1,w.alloc (.map #[] 0)=w1:=⟨_,rfl⟩
 have hm1:w1.ownsMap Tryz.prog 9 Ren w.heap.size 0 (.map []):=by rw[←hw1];exact World.ownsMap_made _ _ _ _
 have bH:w1.heap.size=w.heap.size+1:=by rw[←hw1];simp
 have b1:Below w.heap.size w w1:=by rw[←hw1];exact(Below.refl _ _).alloc (Nat.le_refl _) _
 obtain⟨w2,hw2,fA,b2,B2⟩:=ay w1 #[.map (some w.heap.size)] 116
 rw[bH]at B2 b2
 have H:Hid (Tb (w.heap.size+1) w.heap.size w2 []∧Below w.heap.size w w2):=hide ⟨⟨B2,by
  obtain⟨es,clock,hb,r⟩:=hm1
  exact⟨es,clock,(b2.block _ (by omega)).trans hb,r⟩,List.Pairwise.nil⟩,b1.trans (b2.mono (by omega))⟩
 have hmm:=@run_makeMap Tryz.prog
 clear hm1 b1 b2 B2
 go_enter Tryz.func31,Tryz.ntmps31
 go_wp2
 go_ret
 exact⟨rfl,H.out⟩
def gv (t:List Ov) (k:ByteArray):ByteArray:=match Tm.get t k with|some o=>o.v|none=>⟨#[]⟩
def gp (t:List Ov) (k:ByteArray):Bool:=match Tm.get t k with|some o=>o.p|none=>false
theorem aiV {p b:Nat}{w:World}{t:List Ov}(h:Tb p b w t)(k:ByteArray)(hk:k.size≤maxLen)(c:Bool):
  (Instr.lookup 114 (.map (some b)) (.string k) c).run Tryz.prog w=.ok (if c then .tuple #[env (gv t k) (gp t k),.bool (Tm.met t k)]else env (gv t k) (gp t k)) w:=by
 have hkey:keyOf Tryz.prog 9 (.string k)=some (.string k.data.toList):=WideMaps.keyOf_string_mk Tryz.underlying9 hk
 have hsh:∀(v:Value) (ps:List MemPlace),Ren v=some ((Tm.dat t).atKey (.string k.data.toList) (.agg [.lit (.string []),.lit (.bool false)]),ps)→v=env (gv t k) (gp t k):=fun v ps hv=>by
  rw[Tm.dat_at]at hv
  unfold gv gp
  cases e:Tm.get t k with
  |none=>rw[e]at hv;exact aoI hv
  |some o=>rw[e]at hv;exact an7 hv
 cases c
 ·obtain⟨v,ps,hrun,hv⟩:=h.own.lookup Tryz.keyed Tryz.underlying114 (Tryz.zeroE w) (zd:=.agg [.lit (.string []),.lit (.bool false)]) (zp:=[]) rfl hkey
  rw[hrun,hsh v ps hv]
  rfl
 ·obtain⟨v,ps,hrun,hv⟩:=h.own.look_ok Tryz.keyed Tryz.underlying114 (Tryz.zeroE w) (zd:=.agg [.lit (.string []),.lit (.bool false)]) (zp:=[]) rfl hkey
  rw[hrun,hsh v ps hv,Tm.auZ,Tm.zB]
  rfl
theorem ahj (p b:Nat)(w:World)(t:List Ov)(k:ByteArray)(h:Tb p b w t)(hk:k.size≤140737488355328):
  Calls Tryz.prog 36 #[.pointer (some ⟨p,0,none⟩),.string k] w fun E w'=>E=.returned (.tuple #[.string (gv t k),.bool (Tm.met t k),.bool (gp t k)])∧Below w.heap.size w w':=by
 have hc:=h.cell
 have hl:=aiV h k (by unfold maxLen;omega) true
 simp only[if_true]at hl
 have HM:=hide (sN p b w hc)
 obtain⟨w1,hw1,bH,b1,B1⟩:=ay w #[.string (gv t k),.bool (gp t k)] 119
 have c0:=ai B1 0 rfl
 have c1:=ai B1 1 rfl
 unfold env at hl
 clear h B1
 go_enter Tryz.func36,Tryz.ntmps36
 go_wp2_with fail
 refine HM.out.mono ?_
 rintro E w' ⟨rfl,rfl⟩
 go_wp2
 go_quiet (fail)
 go_wp2
 go_ret3
 exact⟨rfl,b1.trans (below_drewN (Below.refl _ _) _)⟩
end Go.Proofs.YtpifdeoepppadaaGreatDoor
namespace Go.Proofs.YtpifdeoepppadaaGreatDoor
open Go.RowKit Go.Maps
open Bm (Ov)
set_option linter.unusedVariables false
attribute [local go_sem] Oper.semAt_some
def ovv (o:Ov):Value:=.agg #[.bool o.p,.string o.k,.string o.v]
def Tm.zb (t l:List Ov):List Ov:=if Bm.first l=0 then Tm.app t l else t
theorem gI {W W':World}{B:Nat}(h:W'.heap[B]? =W.heap[B]?)(j:Nat):W'.cell? ⟨B,j,none⟩=W.cell? ⟨B,j,none⟩:=World.cell?_of_block (show W'.heap[(⟨B,j,none⟩:Addr).block]? =W.heap[(⟨B,j,none⟩:Addr).block]? from h)
theorem ayV {p b:Nat}{w:World}{t:List Ov}(o:Ov)(h:Tb p b w t)(hk:o.k.size≤140737488355328)(hn:t.length<140737488355328):
  ∃w',(Instr.mapUpdate 114 (.map (some b)) (.string o.k) (.agg #[.string o.v,.bool o.p])).run Tryz.prog w=.ok () w'∧Tb p b w' (Tm.one t o)∧w.grownBy w' (some b):=by
 have hkey:keyOf Tryz.prog 9 (.string o.k)=some (.string o.kl):=WideMaps.keyOf_string_mk Tryz.underlying9 (by unfold maxLen;omega)
 obtain⟨w',h1,h2,h3⟩:=h.own.update Tryz.keyed Tryz.underlying114 (by unfold maxLen;omega) hkey (axl o)
 refine⟨w',h1,⟨(h3.block p h.plt fun e=>h.ne (Option.some.inj e)).trans h.blk,?_,Tm.vG o h.up⟩,h3⟩
 rw[Tm.atM o h.up]at h2
 have:=World.ownsMap.tight h2
 rwa[Tm.xw]at this
theorem wF (p b:Nat)(w:World)(t:List Ov)(v:Value)(l:List Ov)(h:Tb p b w t)(hl:dm w v l)(hf:fG l)(hn:t.length+l.length≤1000000):
  Calls Tryz.prog 32 #[.pointer (some ⟨p,0,none⟩),v] w fun E w'=>E=.returned (.int .i64 (Bm.first l))∧Tb p b w' (Tm.zb t l)∧Out (fun g=>g=b) w w':=by
 have HM:=hide (sN p b w h.cell)
 obtain⟨ao,cap,hsv,hcap,hcm⟩:=hl.shape
 have jb:=hide fun(h0:0<l.length)=>hl.full h0
 subst hsv
 have HF:=hide hf
 have HT0:=hide h
 obtain⟨n,hnn⟩:∃n,l.length=n:=⟨_,rfl⟩
 rw[hnn]at jb hcap hn⊢
 have HN:=hide hnn
 have hc:=h.cell
 have hplt:=h.plt
 clear hl hf h hnn
 go_enter Tryz.func32,Tryz.ntmps32
 go_wp2_with fail
 refine HM.out.mono ?_
 rintro E w' ⟨rfl,rfl⟩
 go_wp2
 go_loopw [15] (fun i wr=>∃(k:Nat),k≤n∧i=.int .i64 k∧Hid (∀q∈l.take k,q.c=0)∧Below w.heap.size w wr) (fun i _=>n-(intOf i).toNat)
 case atStart=>exact⟨0,by omega,rfl,hide (by simp),Below.refl _ _⟩
 case round=>
  obtain⟨k,hk,rfl,HT,aF⟩:=hrel
  obtain⟨wa,rfl⟩:∃x,x=wr:=⟨wr,rfl⟩
  have sz:=aF.size
  by_cases hlt:k<n
  ·obtain⟨o,ho⟩:∃o,l[k]? =some o:=⟨l[k]'(by have:=HN.out;omega),by rw[List.getElem?_eq_getElem]⟩
   obtain⟨b1,o1,cq,dL,_,_,hB,hcell⟩:=jb.out (by omega)
   simp only[Value.slice.injEq,true_and]at dL
   obtain⟨rfl,rfl⟩:=dL
   obtain⟨c0,c1,c2⟩:=hcell k o ho
   have d0:=(aF.cell (p:=⟨b1,o1+k*3,none⟩) hB).trans c0
   have d1:=(aF.cell (p:=⟨b1,o1+k*3+1,none⟩) hB).trans c1
   have d2:=(aF.cell (p:=⟨b1,o1+k*3+2,none⟩) hB).trans c2
   have HO:=hide ho
   clear c0 c1 c2 ho hcell
   have hlt':(k:Int)<n:=by omega
   obtain⟨hk1,hv1⟩:=HF.out o (List.mem_of_getElem? HO.out)
   obtain⟨W1,hW1,bH,rq,B1⟩:=ay wa #[.bool o.p,.string o.k,.string o.v] 106
   have e0:=ai B1 0 rfl
   have e1:=ai B1 1 rfl
   have e2:=ai B1 2 rfl
   have b01:Below w.heap.size w W1:=aF.trans (rq.mono sz)
   clear B1 rq
   go_wp2_with fail
   refine(mG o.p o.k o.v _ hk1 hv1).mono ?_
   rintro E w1 ⟨rfl,ax⟩
   have aB:Below w.heap.size w w1:=b01.trans (ax.mono (by omega))
   clear ax d0 d1 d2 e0 e1 e2
   rcases(show Om.aJ o.p o.k.data.toList o.v.data.toList=0∨_ from Om.zV _ _ _)with hc|hc
   ·rw[hc]
    have HT2:=hide (ab9 HT.out HO.out hc)
    clear hc
    go_wp2
    go_roundw
    case rel=>exact⟨k+1,by omega,by go_num,HT2,aB⟩
    case measure=>simp[intOf];omega
   ·rw[hc]
    have HB:=hide (Bm.ad5 (List.mem_of_getElem? HO.out) (show Bm.Ov.c o≠0 by unfold Bm.Ov.c Bm.Ov.kl Bm.Ov.vl;rw[hc];simp))
    clear hc
    go_wp2
    go_ret
    refine⟨iT HB.out.symm,?_,Out.of_below aB⟩
    unfold Tm.zb
    rw[HB.out]
    exact HT0.out.below aB
  ·have hkn:k=n:=by omega
   have HB:Hid (Bm.first l=0):=hide (Bm.pQ (fun q hq=>HT.out q (by rw[List.take_of_length_le (by have:=HN.out;omega)];exact hq)))
   have hlt':¬(k:Int)<n:=by omega
   have HT1:=hide (HT0.out.below aF)
   have aku:=hide aF
   clear hc aF
   go_wp2
   go_loopw [27] (fun i wr=>∃(k:Nat),k≤n∧i=.int .i64 k∧Hid (Tb p b wr (Tm.app t (l.take k)))∧Out (fun g=>g=b) w wr) (fun i _=>n-(intOf i).toNat)
   case atStart=>exact⟨0,by omega,rfl,HT1,Out.of_below aku.out⟩
   case round=>
    obtain⟨k,hk,rfl,HT,aF⟩:=hrel
    have sz:=aF.size
    by_cases hlt:k<n
    ·obtain⟨o,ho⟩:∃o,l[k]? =some o:=⟨l[k]'(by have:=HN.out;omega),by rw[List.getElem?_eq_getElem]⟩
     obtain⟨b1,o1,cq,dL,_,_,hB,hcell⟩:=jb.out (by omega)
     simp only[Value.slice.injEq,true_and]at dL
     obtain⟨rfl,rfl⟩:=dL
     obtain⟨c0,c1,c2⟩:=hcell k o ho
     have hbb:=HT0.out.row c0
     have hblk:=aF.block b1 hB hbb
     have d0:=(gI hblk (o1+k*3)).trans c0
     have d1:=(gI hblk (o1+k*3+1)).trans c1
     have d2:=(gI hblk (o1+k*3+2)).trans c2
     have HO:=hide ho
     clear c0 c1 c2 ho hcell hblk
     have azC:(k:Int)<n:=by omega
     obtain⟨hk1,hv1⟩:=HF.out o (List.mem_of_getElem? HO.out)
     obtain⟨W1,hW1,bH,rq,B1⟩:=ay wr #[.bool o.p,.string o.k,.string o.v] 106
     have e0:=ai B1 0 rfl
     have e1:=ai B1 1 rfl
     have e2:=ai B1 2 rfl
     have T1:=HT.out.below rq
     have pc:=T1.cell
     have hlen:(Tm.app t (l.take k)).length<140737488355328:=by
      have h1:=Tm.uZ (l.take k) t
      rw[List.length_take]at h1
      omega
     obtain⟨W2,hrun,T2,g2⟩:=ayV (w:=W1.drew) o (T1.agree rfl rfl) (by omega) hlen
     have R2:Hid (Tb p b W2 (Tm.app t (l.take (k+1)))∧Out (fun g=>g=b) w W2):=hide ⟨by
      obtain⟨hk',hk2⟩:=List.getElem?_eq_some_iff.1 HO.out
      rw[List.take_succ_eq_append_getElem hk',hk2,Tm.nY]
      exact T2,by
      have q1:Out (fun g=>g=b) w W1:=aF.trans (Out.of_below (F:=fun g=>g=b) rq) fun g hg=>.inl hg
      have q2:Out (fun g=>g=b) w W1.drew:=q1.drew 1
      exact q2.trans (Out.aT (F:=fun g=>g=b) g2 fun g hg=>by simpa using hg.symm) fun g hg=>.inl hg⟩
     clear T1 T2 g2 B1 rq aF
     go_wp2
     go_region
     go_wp2
     go_roundw
     case rel=>exact⟨k+1,by omega,by go_num,R2.out⟩
     case measure=>simp[intOf];omega
    ·have hkn':k=n:=by omega
     have azC:¬(k:Int)<n:=by omega
     have HE:Hid (Tb p b wr (Tm.zb t l)):=hide (by
      have h1:=HT.out
      rw[List.take_of_length_le (by have:=HN.out;omega)]at h1
      unfold Tm.zb
      rw[HB.out]
      exact h1)
     go_wp2
     go_ret
     exact⟨iT HB.out.symm,HE.out,aF⟩
end Go.Proofs.YtpifdeoepppadaaGreatDoor
namespace Go.Proofs.YtpifdeoepppadaaGreatDoor
open Go.RowKit
set_option linter.unusedVariables false
section
variable {P:Program} {w:World}
theorem jg (t ty e:TypeId)(base:Nat)(ht:P.underlying t=some (.slice e))(hinfo:(P.info? e).map (fun i=>(i.zero,i.size,i.bytes))=some (some (.agg #[.int .i64 0,.int .i64 0,.slice none 0 0]),3,40))
  (v:Value) (l:List Cw) (hown:bG e base w v l) (vx:Value) (m:List Cw) (his:dZ w vx m) (hone:∀c∈m,c.v.oneCell'=true) (hlen:(l.length+m.length)*40≤140737488355328) (hbase:base≤w.heap.size):
  ∃v' w',(Builtin.append_ #[t,t] ty #[v,vx]).run P w=.ok v' w'∧bG e base w' v' (l++m)∧w.grownBy w' v.ownBlock∧(v'.ownBlock=v.ownBlock∨v'.ownBlock=some w.heap.size):=by
 obtain⟨i,hi,hz,hsize,hb⟩:=info_parts hinfo
 rcases his with⟨hv,hy⟩|⟨ad,cap,hv,h1,h2,hc⟩
 ·subst hy hv
  have hrun:=run_append_owned_none (P:=P) (w:=w) base t ty e i 3 ht hi v l.length _ hown
  exact⟨v,w,hrun,by simpa using hown,World.grownBy.refl _ _,.inl rfl⟩
 ·subst hv
  obtain⟨v',w',hr,h3,h4,_,h5⟩:=run_append_own_at (P:=P) w base t ty e i _ 3 40 ht hi hz hsize hb rfl (by decide) v l.length _ hown ad m.length cap (ccells m) (qB m) hc (ll m hone) (by unfold maxLen;omega) hlen hbase
  exact⟨v',w',hr,by unfold bG;rw[wK,List.length_append];exact h3,h4,h5⟩
end
theorem ale (l:List Cw)(i:Nat)(c:Cw)(hi:i<l.length):(((ccells l).set (i*3) (.int .i64 c.e)).set (i*3+1) (.int .i64 c.n)).set (i*3+2) c.v=ccells (l.set i c):=by
 induction l generalizing i with
 |nil=>simp at hi
 |cons d l ih=>
  cases i with
  |zero=>simp[ccells,gD]
  |succ i=>
   have:=ih i (by simpa using hi)
   rw[show(i+1)*3=i*3+3 by omega]
   simp only[ccells,gD,List.set_cons_succ,List.cons_append,List.nil_append]
   rw[←this]
theorem vV {e base g n cap:Nat}{w:World}{l:List Cw}(h:bG e base w (.slice (some ⟨g,0,none⟩) n cap) l)(hn:l.length=n)(i:Nat)(hi:i<n)(c:Cw):
  ∃W,((w.setCell ⟨g,i*3,none⟩ (.int .i64 c.e)).setCell ⟨g,i*3+1,none⟩ (.int .i64 c.n)).setCell ⟨g,i*3+2,none⟩ c.v=W∧bG e base W (.slice (some ⟨g,0,none⟩) n cap) (l.set i c)∧w.grownBy W (some g):=by
 subst hn
 unfold bG at h
 have s1:=h.stored (i*3) (.int .i64 c.e)
 have s2:=s1.1.stored (i*3+1) (.int .i64 c.n)
 have s3:=s2.1.stored (i*3+2) c.v
 refine⟨_,rfl,?_,aO s1.2 (aO s2.2 s3.2)⟩
 unfold bG
 rw[List.length_set,←ale l i c hi]
 exact s3.1
theorem mD {e base g n cap:Nat}{w:World}{l:List Cw}(h:bG e base w (.slice (some ⟨g,0,none⟩) n cap) l)(hn:l.length=n)(i:Nat)(c:Cw)(hc:l[i]? =some c):
  (w.cell? ⟨g,i*3,none⟩=some (.int .i64 c.e)∧w.cell? ⟨g,i*3+1,none⟩=some (.int .i64 c.n)∧w.cell? ⟨g,i*3+2,none⟩=some c.v)∧(w.frozen? ⟨g,i*3,none⟩=false∧w.frozen? ⟨g,i*3+1,none⟩=false∧w.frozen? ⟨g,i*3+2,none⟩=false):=by
 subst hn
 unfold bG at h
 obtain⟨hi,rfl⟩:=List.getElem?_eq_some_iff.1 hc
 obtain⟨a0,a1,a2⟩:=tO l i hi
 exact⟨⟨by rw[h.cellAt (i*3) (by omega)];exact a0,by rw[h.cellAt (i*3+1) (by omega)];exact a1,by rw[h.cellAt (i*3+2) (by omega)];exact a2⟩,h.frozenAt _,h.frozenAt _,h.frozenAt _⟩
end Go.Proofs.YtpifdeoepppadaaGreatDoor
namespace Go.Proofs.YtpifdeoepppadaaGreatDoor
open Go.RowKit Go.Maps
open Bm (Ov)
set_option linter.unusedVariables false
theorem aqa (p b:Nat)(w:World)(t:List Ov)(h:Tb p b w t):
  Calls Tryz.prog 125 #[.pointer (some ⟨p,0,none⟩)] w fun E w'=>E=.returned (.int .i64 t.length)∧w=w':=by
 have hc:=h.cell
 have hl:=fun ty=>h.own.len Tryz.underlying114 ty
 rw[Tm.xw]at hl
 have HM:=hide (sN p b w hc)
 clear h
 go_enter Tryz.func125,Tryz.ntmps125
 go_wp2_with fail
 refine HM.out.mono ?_
 rintro E w' ⟨rfl,rfl⟩
 go_wp2
 go_ret
 exact⟨rfl,rfl⟩
end Go.Proofs.YtpifdeoepppadaaGreatDoor
