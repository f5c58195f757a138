/- Texts of one layer, one behind the other. -/
import Derived.Test.YtlmkaljjocflmaaGreatDoorAH12
set_option maxRecDepth 100000
set_option maxHeartbeats 8000000
namespace Go.Proofs.YtlmkaljjocflmaaGreatDoor
open Go.RowKit Go.Shelf
set_option linter.unusedVariables false
attribute [local go_sem] Oper.semAt_some
def yN (w:World) (v:Value):Prop:=v=.pointer none∨∃q,v=.pointer (some ⟨q,0,none⟩)∧w.cell? ⟨q,0,none⟩=some (.bool false)
theorem yN.below {w w':World}{v:Value}(h:yN w v)(hb:Below w.heap.size w w'):yN w' v:=by
 rcases h with h|⟨q,h1,h2⟩
 ·exact .inl h
 ·exact .inr ⟨q,h1,(hb.cell (World.block_lt_of_cell? _ _ h2)).trans h2⟩
theorem avm (v:Value)(w:World)(h:yN w v):Calls Tryz.prog 67 #[v] w fun E w'=>E=.returned (.bool false)∧w=w':=by
 rcases h with rfl|⟨q,rfl,hc⟩
 ·go_enter Tryz.func67,Tryz.ntmps67
  go_wp2
  go_ret
  exact⟨rfl,rfl⟩
 ·go_enter Tryz.func67,Tryz.ntmps67
  go_wp2
  go_ret
  exact⟨rfl,rfl⟩
theorem awO (v:Value)(w:World)(h:yN w v):Calls Tryz.prog 146 #[v] w fun E w'=>E=.returned (.int .i64 1)∧w=w':=by
 have HN:=hide (avm v w h)
 clear h
 go_enter Tryz.func146,Tryz.ntmps146
 go_wp2_with fail
 refine HN.out.mono ?_
 rintro E w1 ⟨rfl,rfl⟩
 go_wp2
 go_ret
 exact⟨rfl,rfl⟩
theorem auU (v:Value)(file:Int)(vb:Value)(w:World)(h:yN w v):
  Calls Tryz.prog 70 #[v,.int .i64 file,vb] w fun E w'=>E=.returned (.int .i64 1)∧Below w.heap.size w w':=by
 have hone:∃q,v=.pointer q:=by
  rcases h with h|⟨q,h,_⟩
  ·exact⟨_,h⟩
  ·exact⟨_,h⟩
 obtain⟨q,hq⟩:=hone
 obtain⟨w1,hw1,aT,ak,B1⟩:=au w #[v] 39
 obtain⟨w2,hw2,dm,az,B2⟩:=au w1 #[.int .i64 file] 3
 obtain⟨w3,hw3,bJ,aC,B3⟩:=au w2 #[.int .i64 0] 29
 rw[aT]at B2 az
 rw[show w2.heap.size=w.heap.size+2 by omega]at B3 aC
 have aW:Below w.heap.size w w3:=(ak.trans (az.mono (by omega))).trans (aC.mono (by omega))
 have HR:=hide (awO v w3 (h.below aW))
 replace dm:w2.heap.size=w.heap.size+2:=by omega
 replace bJ:w3.heap.size=w.heap.size+3:=by omega
 have C0:w3.cell? ⟨w.heap.size,0,none⟩=some v:=by
  have e1:=(az.block w.heap.size (by omega)).trans B1
  exact ai ((aC.block w.heap.size (by omega)).trans e1) 0 rfl
 have C2:w3.cell? ⟨w.heap.size+2,0,none⟩=some (.int .i64 0):=ai B3 0 rfl
 have f2:=aB B3 0
 have HE:Hid (Below w.heap.size w (w3.setCell ⟨w.heap.size+2,0,none⟩ (.int .i64 1))∧(w3.setCell ⟨w.heap.size+2,0,none⟩ (.int .i64 1)).cell? ⟨w.heap.size+2,0,none⟩=some (.int .i64 1)):=hide
  ⟨aW.grown (ax w3 ⟨w.heap.size+2,0,none⟩ _) (by omega) fun k hk=>by simp at hk;omega,ai (aG B3 0 (.int .i64 1)) 0 (by simp)⟩
 subst hq
 clear h B1 B2 B3
 refine(callsIn_wide (n:=6)).1 ?_
 refine callsIn_of_wp_marks Tryz.func70 rfl trivial ?_ rfl
 simp only[Tryz.ntmps70,List.size_toArray,List.length_cons,List.length_nil,Nat.reduceAdd,Nat.reduceSub,Array.replicate_succ,Array.replicate_zero,List.push_toArray,List.append_toArray,List.nil_append,List.cons_append]
 gi_wp2_with fail
 refine⟨trivial,(callsIn_wide.2 HR.out).mono ?_⟩
 rintro E w' ⟨rfl,rfl⟩
 gi_wp2
 obtain⟨b6,c6⟩:=HE.out
 refine⟨.int .i64 1,?_,rfl,b6⟩
 simp[results,Tryz.results70,go_sem,c6]
end Go.Proofs.YtlmkaljjocflmaaGreatDoor
