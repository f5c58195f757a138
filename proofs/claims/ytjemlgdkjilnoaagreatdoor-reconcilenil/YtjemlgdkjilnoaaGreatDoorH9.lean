/- Texts of one layer, one behind the other. -/
import Derived.Test.YtjemlgdkjilnoaaGreatDoorH1
import Derived.Test.YtjemlgdkjilnoaaGreatDoorH2
import Derived.Test.YtjemlgdkjilnoaaGreatDoorG3
set_option maxRecDepth 100000
set_option maxHeartbeats 8000000
namespace Go.Proofs.YtjemlgdkjilnoaaGreatDoor
open Go.RowKit
set_option linter.unusedVariables false
def cpl (z:Int):Int:=bits BinOp.xor IntKind.u8 (if IntKind.u8.signed=true then -1 else IntKind.u8.max) z
structure Lists (m bl base:Nat) (w:World) (vs:Nat→Value) (zs:Nat→List Int):Prop where
 cell:∀i,i<m→w.cell? ⟨bl,i,none⟩=some (vs i)
 own:∀i,i<m→Own .u8 5 base w (vs i) (zs i)
 apart:∀i j,i<m→j<m→i≠j→(vs i).ownBlock=none∨(vs i).ownBlock≠(vs j).ownBlock
 table:∀i,i<m→(vs i).ownBlock≠some bl
 lens:∀i,i<m→(zs i).length≤150000000000000
structure Copies (m bl base:Nat) (w0 wr:World) (vs us:Nat→Value) (zs:Nat→List Int) (k:Nat):Prop where
 cell:∀i,i<m→wr.cell? ⟨bl,i,none⟩=some (vs i)
 was:∀i,i<m→wr.cell? ⟨w0.heap.size,i,none⟩=some (us i)
 new:∀i,i<m→Own .u8 5 (w0.heap.size+1) wr (us i) (zs i)
 done:∀i,i<k→i<m→Own .u8 5 base wr (vs i) ((zs i).map cpl)
 left:∀i,k≤i→i<m→Own .u8 5 base wr (vs i) (zs i)
 below:Below base w0 wr
 keep:∀g,g<w0.heap.size→(∀i,i<m→(vs i).ownBlock≠some g)→wr.heap[g]? =w0.heap[g]?
def two {α:Type} (a b:α):Nat→α|0=>a|_=>b
def wD (F:Nat→Prop) (w:World) (v:Value) (zs:List Int):Prop:=Is .u8 w v zs∧∀b,v.ownBlock=some b→F b∧∃cs fr,w.heap[b]? =some (.cells cs 5 fr)
theorem wD.nil (F:Nat→Prop)(w:World):wD F w (.slice none 0 0) []:=⟨Is.nil _ _,fun b hb=>by simp[Value.ownBlock]at hb⟩
theorem wD.agree {F:Nat→Prop}{w w':World}{v:Value}{zs:List Int}(h:wD F w v zs)(ha:∀b,v.ownBlock=some b→w'.heap[b]? =w.heap[b]?):wD F w' v zs:=
 ⟨h.1.agree ha,fun b hb=>⟨(h.2 b hb).1,by obtain⟨_,cs,fr,hc⟩:=h.2 b hb;exact⟨cs,fr,(ha b hb).trans hc⟩⟩⟩
structure Rv where
 file:Nat
 cut:Bool
 to:Nat
 v:Value
 bytes:List Int
def Rv.r (r:Rv):Dm.Rw:=⟨r.file,r.cut,r.to,r.bytes⟩
section
variable {p:Nat} {F G:Nat→Prop} {w w' w1 w2:World} {st st':Dm.Ds} {s s':Nat→Value} {wv wv':Value} {rs rs':List Rv}
end
def ask (st:Dm.Ds):Int:=if st.on then 0 else 6
theorem si {st:Dm.Ds}(h:st.on=true):ask st=0:=by simp[ask,h]
theorem sM {st:Dm.Ds}(h:st.on=false):ask st=6:=by simp[ask,h]
theorem uJ {l:List Dm.Rw}{k:Nat}{r:Dm.Rw}(h:l[k]? =some r):l.take (k+1)=l.take k++[r]:=by
 obtain⟨hk,rfl⟩:=List.getElem?_eq_some_iff.1 h
 exact List.take_succ_eq_append_getElem hk
theorem acP:∀(l:List Dm.Rw) (k:Nat),Dm.gq (l.take k)≤Dm.gq l
 |[],k=>by simp[Dm.gq]
 |r::l,0=>by simp[Dm.gq]
 |r::l,k+1=>by
  have:=acP l k
  simp only[List.take_succ_cons,Dm.gq]
  omega
theorem ahe {l:List Dm.Rw}{k:Nat}{r:Dm.Rw}(h:l[k]? =some r):Dm.gq (l.take k)+r.bytes.length≤Dm.gq l:=by
 have h1:=acP l (k+1)
 rw[uJ h,Dm.aaf]at h1
 simp only[Dm.gq]at h1
 omega
theorem ajI {l:List Dm.Rw}{k:Nat}{r:Dm.Rw}(h:l[k]? =some r)(f:Nat)(b:List Int):Dm.hold f b (l.take (k+1))=if r.file=f then Dm.je (Dm.hold f b (l.take k)) r else Dm.hold f b (l.take k):=by
 rw[uJ h,Dm.og]
end Go.Proofs.YtjemlgdkjilnoaaGreatDoor
