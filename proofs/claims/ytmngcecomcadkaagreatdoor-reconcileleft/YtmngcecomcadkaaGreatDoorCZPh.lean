/- Texts of one layer, one behind the other. -/
import Derived.Test.YtmngcecomcadkaaGreatDoorCH18
import Derived.RangeFuncNested
import Derived.RangeFuncBound
import Derived.RangeFuncCalls
import Derived.RangeFuncLeaves
import Derived.Shelf.Abstract
import Derived.Shelf.RegionOpen
import Derived.WalkKit
import Derived.OwnWalkIn
import Derived.TacticsInMore
import Derived.LoopNIn
import Derived.LoopIn
set_option maxRecDepth 100000
set_option maxHeartbeats 8000000
namespace Go.Proofs.YtmngcecomcadkaaGreatDoor
open Go.RowKit Go.Shelf
set_option linter.unusedVariables false
attribute [local go_sem] Oper.semAt_some
abbrev Cx (L:Nat):={i:Nat // i*64<L}
def cnt (L:Nat):Nat:=(L+63) / 64
def up (L:Nat):Nat→List (Cx L)
 |0=>[]
 |k+1=>up L k++(if h:k*64<L then [⟨k,h⟩]else [])
theorem qd (L k:Nat)(h:k*64<L):up L (k+1)=up L k++[⟨k,h⟩]:=by rw[up,dif_pos h]
theorem aeG (L:Nat):∀k,k≤cnt L→(up L k).length=k
 |0,_=>rfl
 |k+1,h=>by
  have h1:k*64<L:=by unfold cnt at h;omega
  rw[qd L k h1,List.length_append,aeG L k (by omega)]
  rfl
def xO (b off L i:Nat):Value:=.slice (some ⟨b,off+i*64,none⟩) (min 64 (L-i*64)) (min 64 (L-i*64))
def Kc (Bs Bn:Nat) (W W':World):Prop:=W'.heap[Bs]? =W.heap[Bs]?∧W'.heap[Bn]? =W.heap[Bn]?
theorem Kc.trans {Bs Bn:Nat}{A B C:World}(h:Kc Bs Bn A B)(k:Kc Bs Bn B C):Kc Bs Bn A C:=⟨k.1.trans h.1,k.2.trans h.2⟩
theorem cell_of_heap {W W':World}{B:Nat}(h:W'.heap[B]? =W.heap[B]?)(j:Nat):W'.cell? ⟨B,j,none⟩=W.cell? ⟨B,j,none⟩:=World.cell?_of_block (show W'.heap[(⟨B,j,none⟩:Addr).block]? =W.heap[(⟨B,j,none⟩:Addr).block]? from h)
theorem zh (b off L cap q m:Nat)(hL:L=q+m)(hm:0<m)(hcap:L≤cap)(hcm:cap≤maxLen)(e:Nat)(he:0<e)(hem:e≤m):
  (∀ty wx,(Builtin.len_ #[61] ty #[.slice (some ⟨b,off,none⟩) L cap]).run Tryz.prog wx=.ok (.int .i64 L) wx)∧
  (∀wx,(Instr.slice 61 (.slice (some ⟨b,off,none⟩) L cap) (some (.int .i64 q)) none none).run Tryz.prog wx=.ok (.slice (some ⟨b,off+q,none⟩) m (cap-q)) wx)∧
  ∀wx,(Instr.slice 61 (.slice (some ⟨b,off,none⟩) L cap) (some (.int .i64 q)) (some (.int .i64 ((q:Int)+e))) (some (.int .i64 ((q:Int)+e)))).run Tryz.prog wx=.ok (.slice (some ⟨b,off+q,none⟩) e e) wx:=by
 have hu:=Tryz.underlying61
 refine⟨fun ty wx=>by simp[Builtin.len_,run_underlying hu,goInt],fun wx=>?_,fun wx=>?_⟩
 ·rw[run_slice_l wx 61 (some ⟨b,off,none⟩) L cap Tryz.kW .i64 _ (by omega) (by omega),Tryz.mG]
  have h1:¬cap=q:=by omega
  have h2:L-q=m:=by omega
  simp[Result.andThen,sliced,h1,h2,gF]
 ·rw[run_slice_lhm wx 61 (some ⟨b,off,none⟩) L cap Tryz.kW .i64 .i64 .i64 _ _ _ (by omega) (by omega) (by omega) (by omega),Tryz.mG]
  have h1:¬((q:Int)+e).toNat=q:=by omega
  have h2:((q:Int)+e).toNat-q=e:=by omega
  simp[Result.andThen,sliced,h1,h2,gF]
theorem akn (n:Nat)(hn:1≤n)(l Bs Bn b off L cap:Nat)(sv:Value)(hsv:sv=.slice (some ⟨b,off,none⟩) L cap∨(L=0∧∃ao c,sv=.slice ao 0 c))(hcap:L≤cap)(hcm:cap≤maxLen)(hLm:L≤140737488355328)(J Jx:List (Cx L)→World→Prop)(W:World)(hJ:AbidesFrom W.heap.size J)
  (hY:∀pre x W1,J pre W1→pre.length<cnt L→YieldAt Fence.wide (n-1) Tryz.prog l #[xO b off L x.1] W1 fun e W'=>(e=.returned (.bool true)∧J (pre++[x]) W'∧Kc Bs Bn W1 W')∨(e=.returned (.bool false)∧Jx (pre++[x]) W'))
  (hBs:W.cell? ⟨Bs,0,none⟩=some sv) (hBn:W.cell? ⟨Bn,0,none⟩=some (.int .i64 64)) (h0:J [] W):
  CallsIn Fence.wide n Tryz.prog 137 #[.func (.yield l) #[] #[],.pointer (some ⟨Bs,0,none⟩),.pointer (some ⟨Bn,0,none⟩)] W fun e W'=>(∃v,e=.returned v)∧((∃xs,xs=up L (cnt L)∧J xs W')∨(∃pre,(∃k,k≤cnt L∧pre=up L k)∧Jx pre W')):=by
 have hro:Fence.wide.round=none:=rfl
 have hlen0:∀ty wx,(Builtin.len_ #[61] ty #[sv]).run Tryz.prog wx=.ok (.int .i64 L) wx:=by
  rcases hsv with rfl|⟨rfl,ao,c,rfl⟩
  ·intro ty wx;simp[Builtin.len_,run_underlying Tryz.underlying61,goInt]
  ·intro ty wx;simp[Builtin.len_,run_underlying Tryz.underlying61,goInt]
 refine callsIn_of_wp Tryz.func137 rfl trivial ?_ hro
 simp only[Tryz.ntmps137,List.size_toArray,List.length_cons,List.length_nil,Nat.reduceAdd,Nat.reduceSub,Array.replicate_succ,Array.replicate_zero,List.push_toArray,List.append_toArray,List.nil_append,List.cons_append]
 gi_wp2
 gi_loopw [4] (fun iv wr=>∃k:Nat,k≤cnt L∧iv=.int .i64 (k*64:Nat)∧Hid (J (up L k) wr)∧Kc Bs Bn W wr) (fun iv _=>(L+64)-(intOf iv).toNat)
 case atStart=>exact⟨0,Nat.zero_le _,rfl,h0,⟨rfl,rfl⟩⟩
 case round=>
  obtain⟨k,hk,rfl,HJ,hK⟩:=hrel
  have cs:wr.cell? ⟨Bs,0,none⟩=some sv:=(cell_of_heap hK.1 0).trans hBs
  have cn:wr.cell? ⟨Bn,0,none⟩=some (.int .i64 64):=(cell_of_heap hK.2 0).trans hBn
  obtain⟨q,hq⟩:∃q,q=k*64:=⟨_,rfl⟩
  rw[←hq]
  by_cases hlt:q<L
  ·obtain⟨m,hm⟩:∃m,L=q+m:=⟨L-q,by omega⟩
   have pq:k*64<L:=by omega
   have ai8:sv=.slice (some ⟨b,off,none⟩) L cap:=by
    rcases hsv with h|⟨h,_⟩
    ·exact h
    ·omega
   have JD:J (up L k) wr.drew:=hJ _ wr wr.drew none HJ.out ⟨rfl,rfl,rfl,Nat.le_refl _,fun _ _ _=>rfl⟩ (fun r e=>by cases e)
   have hlt':(q:Int)<L:=by omega
   by_cases hsm:m<64
   ·have ev:xO b off L k=.slice (some ⟨b,off+q,none⟩) m m:=by
     have h1:min 64 (L-k*64)=m:=by omega
     unfold xO
     rw[h1,←hq]
    obtain⟨f1,f2,f3⟩:=zh b off L cap q m hm (by omega) hcap hcm m (by omega) (by omega)
    rw[←ai8]at f2 f3
    obtain⟨fn,tmps,assign,body,hy,hR⟩:=hY _ ⟨k,pq⟩ wr.drew JD (by rw[aeG L k hk];unfold cnt;omega)
    dsimp only at hy
    rw[ev]at hy
    have hmi:(m:Int)<64:=by omega
    have hw1:IntKind.i64.wrap ((q:Int)+(m:Nat))=(q:Int)+(m:Nat):=kF _ (by omega) (by omega)
    have hw2:IntKind.i64.wrap ((q:Int)+64)=(q:Int)+64:=kF _ (by omega) (by omega)
    have HR:=hide hR
    have HQ:=hide hq
    have HM:=hide hm
    clear f1 hR ev hsv ai8 hq hm JD hY hBs hBn hJ h0
    gi_wp2
    gi_region
    all_goals
     gi_wp2
     refine HR.out.mono ?_
     rintro e W3 (⟨rfl,hJ3,hk3⟩|⟨rfl,hJx3⟩)
     ·have cs3:W3.cell? ⟨Bs,0,none⟩=some sv:=(cell_of_heap hk3.1 0).trans cs
      have cn3:W3.cell? ⟨Bn,0,none⟩=some (.int .i64 64):=(cell_of_heap hk3.2 0).trans cn
      have hJ4:Hid (J (up L (k+1)) W3):=hide (by rw[qd L k pq];exact hJ3)
      have hK4:Kc Bs Bn W W3:=hK.trans hk3
      clear hJ3
      gi_wp2
      go_roundw
      case rel=>exact⟨k+1,by unfold cnt;omega,by have:=HQ.out;congr 1;omega,hJ4,hK4⟩
      case measure=>simp[intOf];have:=HQ.out;omega
     ·have hJ4:Hid (Jx (up L (k+1)) W3):=hide (by rw[qd L k pq];exact hJx3)
      clear hJx3
      gi_wp2
      refine bodyPost_ret (results_none rfl _ _ _) rfl ?_
      exact⟨⟨_,rfl⟩,.inr ⟨_,⟨k+1,by unfold cnt;omega,rfl⟩,hJ4.out⟩⟩
   ·have ev:xO b off L k=.slice (some ⟨b,off+q,none⟩) 64 64:=by
     have h1:min 64 (L-k*64)=64:=by omega
     unfold xO
     rw[h1,←hq]
    obtain⟨f1,f2,f3⟩:=zh b off L cap q m hm (by omega) hcap hcm 64 (by omega) (by omega)
    rw[←ai8]at f2 f3
    have f4:∀wx,(Instr.slice 61 sv (some (.int .i64 q)) (some (.int .i64 ((q:Int)+64))) (some (.int .i64 ((q:Int)+64)))).run Tryz.prog wx=.ok (.slice (some ⟨b,off+q,none⟩) 64 64) wx:=f3
    clear f3
    obtain⟨fn,tmps,assign,body,hy,hR⟩:=hY _ ⟨k,pq⟩ wr.drew JD (by rw[aeG L k hk];unfold cnt;omega)
    dsimp only at hy
    rw[ev]at hy
    have hmi:¬(m:Int)<64:=by omega
    have hw2:IntKind.i64.wrap ((q:Int)+64)=(q:Int)+64:=kF _ (by omega) (by omega)
    have HR:=hide hR
    have HQ:=hide hq
    have HM:=hide hm
    clear f1 hR ev hsv ai8 hq hm JD hY hBs hBn hJ h0
    gi_wp2
    gi_region
    all_goals
     gi_wp2
     refine HR.out.mono ?_
     rintro e W3 (⟨rfl,hJ3,hk3⟩|⟨rfl,hJx3⟩)
     ·have cs3:W3.cell? ⟨Bs,0,none⟩=some sv:=(cell_of_heap hk3.1 0).trans cs
      have cn3:W3.cell? ⟨Bn,0,none⟩=some (.int .i64 64):=(cell_of_heap hk3.2 0).trans cn
      have hJ4:Hid (J (up L (k+1)) W3):=hide (by rw[qd L k pq];exact hJ3)
      have hK4:Kc Bs Bn W W3:=hK.trans hk3
      clear hJ3
      gi_wp2
      go_roundw
      case rel=>exact⟨k+1,by unfold cnt;omega,by have:=HQ.out;congr 1;omega,hJ4,hK4⟩
      case measure=>simp[intOf];have:=HQ.out;omega
     ·have hJ4:Hid (Jx (up L (k+1)) W3):=hide (by rw[qd L k pq];exact hJx3)
      clear hJx3
      gi_wp2
      refine bodyPost_ret (results_none rfl _ _ _) rfl ?_
      exact⟨⟨_,rfl⟩,.inr ⟨_,⟨k+1,by unfold cnt;omega,rfl⟩,hJ4.out⟩⟩
  ·have hlt':¬(q:Int)<L:=by omega
   obtain rfl:k=cnt L:=by unfold cnt at hk⊢;omega
   clear hq
   gi_wp2
   go_end0
   exact⟨⟨_,rfl⟩,.inl HJ.out⟩
theorem ajV (v:Value)(hv:∃a n c,v=.slice a n c)(w:World):Calls Tryz.prog 99 #[v,.int .i64 64] w fun e w'=>e=.returned (.func (.func 137) #[] #[.pointer (some ⟨w.heap.size,0,none⟩),.pointer (some ⟨w.heap.size+1,0,none⟩)])∧w'=(w.alloc (.cells #[v] 61)).alloc (.cells #[.int .i64 64] 3):=by
 obtain⟨a,n,c,rfl⟩:=hv
 go_enter Tryz.func99,Tryz.ntmps99
 go_wp2
 go_ret
 exact⟨rfl,rfl⟩
end Go.Proofs.YtmngcecomcadkaaGreatDoor
