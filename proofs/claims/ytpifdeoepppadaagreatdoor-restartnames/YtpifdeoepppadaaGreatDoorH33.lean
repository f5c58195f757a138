/- Texts of one layer, one behind the other. -/
import Derived.Test.YtpifdeoepppadaaGreatDoorH23
set_option maxRecDepth 100000
set_option maxHeartbeats 8000000
namespace Go.Proofs.YtpifdeoepppadaaGreatDoor
open Go.RowKit
set_option linter.unusedVariables false
def NoK (w:World) (o:Option Addr):Prop:=o=none∨∃q,o=some ⟨q,0,none⟩∧w.cell? ⟨q,0,none⟩=some (.bool false)
theorem arP (w:World)(o:Option Addr)(h:NoK w o):Calls Tryz.prog 95 #[.pointer o] w fun E w'=>E=.returned (.bool false)∧w=w':=by
 rcases h with rfl|⟨p,rfl,c0⟩
 ·go_enter Tryz.func95,Tryz.ntmps95
  go_wp2
  go_ret
  exact⟨rfl,rfl⟩
 ·go_enter Tryz.func95,Tryz.ntmps95
  go_wp2
  go_ret
  exact⟨rfl,rfl⟩
theorem aio (w:World)(o:Option Addr)(h:NoK w o):Calls Tryz.prog 82 #[.pointer o] w fun E w'=>E=.returned (.int .i64 1)∧w=w':=by
 have HM:=hide (arP w o h)
 clear h
 go_enter Tryz.func82,Tryz.ntmps82
 go_wp2_with fail
 refine HM.out.mono ?_
 rintro E w1 ⟨rfl,rfl⟩
 go_wp2
 go_ret
 exact⟨rfl,rfl⟩
theorem anL (w:World)(o:Option Addr)(f:Int)(h:NoK w o):Calls Tryz.prog 37 #[.pointer o,.int .i64 f,.slice none 0 0] w fun E w'=>E=.returned (.int .i64 1)∧Below w.heap.size w w':=by
 obtain⟨w1,hw1,s1,b1,P1⟩:=ay w #[.pointer o] 23
 obtain⟨w2,hw2,s2,b2,P2⟩:=ay w1 #[.int .i64 f] 3
 obtain⟨w3,hw3,s3,b3,P3⟩:=ay w2 #[.int .i64 0] 26
 have z2:w2.heap.size=w.heap.size+2:=by omega
 rw[z2]at P3
 have fH:Below w.heap.size w w3:=(b1.trans (b2.mono (by omega))).trans (b3.mono (by omega))
 have c1:w3.cell? ⟨w.heap.size,0,none⟩=some (.pointer o):=ai ((b3.block _ (by omega)).trans ((b2.block _ (by omega)).trans P1)) 0 rfl
 have hK:NoK w3 o:=by
  rcases h with h|⟨q,h1,h2⟩
  ·exact .inl h
  ·refine .inr ⟨q,h1,?_⟩
   have hq:q<w.heap.size:=by
    rcases Nat.lt_or_ge q w.heap.size with k|k
    ·exact k
    ·rw[World.cell?,Array.getElem?_eq_none k]at h2;cases h2
   have:=fH.block q hq
   rw[←h2]
   simp[World.cell?,this]
 have HR:=hide (aio w3 o hK)
 have c3:=ai P3 0 rfl
 have f3:=az P3 0
 have q3:=aL P3 0 (.int .i64 1)
 have gr:w3.grownBy (w3.setCell ⟨w.heap.size+2,0,none⟩ (.int .i64 1)) (some (w.heap.size+2)):=aC w3 ⟨w.heap.size+2,0,none⟩ (.int .i64 1)
 obtain⟨V,hV⟩:∃V,w3.setCell ⟨w.heap.size+2,0,none⟩ (.int .i64 1)=V:=⟨_,rfl⟩
 rw[hV]at q3 gr
 have v3:V.cell? ⟨w.heap.size+2,0,none⟩=some (.int .i64 1):=ai q3 0 rfl
 have BV:=hide (aK fH gr (by omega) (by omega))
 clear h hK b1 b2 b3 P1 P2 P3 s2 s3 fH q3 gr
 go_enter Tryz.func37,Tryz.ntmps37
 go_wp2_with fail
 refine HR.out.mono ?_
 rintro E w4 ⟨rfl,rfl⟩
 clear HR
 go_wp2
 refine bodyPost_ret (v:=.int .i64 1) (by simp[results,Tryz.results37,go_sem,v3]) rfl ?_
 exact⟨rfl,BV.out⟩
theorem aeE (v:Value)(w:World)(node:Int)(h:v=.pointer none∨∃q,v=.pointer (some ⟨q,0,none⟩)∧w.cell? ⟨q,0,none⟩=some (.bool false)):
  Calls Tryz.prog 9 #[v,.int .i64 node] w fun E w'=>E=.returned (.tuple #[.pointer none,.int .i64 1])∧Below w.heap.size w w':=by
 obtain⟨w1,hw1,s1,b1,P1⟩:=ay w #[.int .i64 node] 3
 obtain⟨o,rfl,hK⟩:∃o,v=.pointer o∧NoK w1 o:=by
  rcases h with rfl|⟨q,rfl,h2⟩
  ·exact⟨none,rfl,.inl rfl⟩
  ·refine⟨_,rfl,.inr ⟨q,rfl,?_⟩⟩
   have hq:q<w.heap.size:=by
    rcases Nat.lt_or_ge q w.heap.size with k|k
    ·exact k
    ·rw[World.cell?,Array.getElem?_eq_none k]at h2;cases h2
   have:=b1.block q hq
   rw[←h2]
   simp[World.cell?,this]
 have WR:=hide (anL w1 o 0 hK)
 have B1:=hide b1
 clear h hK b1 P1
 go_enter Tryz.func9,Tryz.ntmps9
 go_wp2_with fail
 refine WR.out.mono ?_
 rintro E w2 ⟨rfl,b2⟩
 have B2:=hide (B1.out.trans (b2.mono B1.out.size))
 clear WR b2
 go_wp2
 go_ret2
 exact⟨rfl,B2.out⟩
end Go.Proofs.YtpifdeoepppadaaGreatDoor
