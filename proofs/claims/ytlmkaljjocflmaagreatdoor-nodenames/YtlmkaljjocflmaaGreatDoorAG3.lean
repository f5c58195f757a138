/- Texts of one layer, one behind the other. -/
import Derived.Test.YtlmkaljjocflmaaGreatDoorAG2
set_option maxRecDepth 100000
set_option maxHeartbeats 8000000
namespace Go.Proofs.YtlmkaljjocflmaaGreatDoor
set_option linter.unusedVariables false
namespace Shp
open Cm (Cv Good fol lastE lastN)
open Mm (Msg)
def lck (e:Int) (l:List Cv):Int:=if e<1∨1048576<e then 2 else if (fol 0 0 0 l).1=0 then(if e<lastE 0 l then 15 else 0)else(fol 0 0 0 l).1
def av1 (e r:Int) (l:List Cv):Int:=if lck e l=0 then(if r<1∨3<r then 2 else 0)else lck e l
def hel (e r:Int) (l:List Cv):Msg:=if av1 e r l=0 then⟨1,e,r,l.length,Sm.told 0 l,0,0,[]⟩else Mm.no
def aww (e n:Int):Int:=if e<1∨1048576<e∨n<0∨1048576<n then 2 else 0
def ack (e n:Int):Msg:=if aww e n=0 then⟨3,e,0,n,[],0,0,[]⟩else Mm.no
theorem xH:∀(l:List Cv) (ep nu:Int),Good ep nu l→ep≤lastE ep l∧∀c∈l,c.e≤lastE ep l
 |[],ep,nu,_=>⟨Int.le_refl _,fun c hc=>by simp at hc⟩
 |d::r,ep,nu,h=>by
  obtain⟨_,_,h3,h4⟩:=h
  obtain⟨k1,k2⟩:=xH r d.e d.n h4
  refine⟨by simp only[lastE];omega,fun c hc=>?_⟩
  simp only[lastE]
  rcases List.mem_cons.1 hc with rfl|hc
  ·exact k1
  ·exact k2 c hc
theorem aaw:∀(l:List Cv) (ep nu:Int),Good ep nu l→lastN nu l=nu+l.length
 |[],_,nu,_=>by simp[lastN]
 |d::r,ep,nu,h=>by
  obtain⟨_,h2,_,h4⟩:=h
  have:=aaw r d.e d.n h4
  simp only[lastN,List.length_cons]
  rw[this]
  omega
theorem uI:∀(l m:List Cv) (ep:Int),lastE ep (l++m)=lastE (lastE ep l) m
 |[],m,_=>rfl
 |d::r,m,ep=>by simpa[lastE]using uI r m d.e
theorem qx {l:List Cv}(h:Good 0 0 l)(k:Nat)(hk:k≤l.length):Good (lastE 0 (l.take k)) k (l.drop k):=by
 have h1:=h
 rw[←List.take_append_drop k l,Cm.dL]at h1
 have:=aaw _ _ _ h1.1
 rw[List.length_take,Nat.min_eq_left hk]at this
 rw[this]at h1
 simpa using h1.2
end Shp
end Go.Proofs.YtlmkaljjocflmaaGreatDoor
namespace Go.Proofs.YtlmkaljjocflmaaGreatDoor
set_option linter.unusedVariables false
namespace Tak
open Cm (Cv Good fol lastE lastN)
open Mm (Msg)
def atE (l:List Cv) (n:Int):Int:=lastE 0 (l.take n.toNat)
def okc (l:List Cv) (c:Cv):Bool:=decide ((l.length:Int)<c.n)||decide (atE l c.n=c.e)
def fits (l:List Cv) (m:Msg):Bool:=decide (atE l (m.f-1)=m.p)&&m.cs.all (okc l)
def tkE (c e:Int) (l:List Cv) (m:Msg):Int:=
 if (fol 0 0 0 l).1=0 then
  (if c=0∧m.k=2 then(if m.e<e then 12 else if e<m.e then 2 else if (l.length:Int)+1<m.f then 13 else if fits l m=true then 0 else 14)else 2)
 else(fol 0 0 0 l).1
def nw (l:List Cv) (cs:List Cv):List Cv:=cs.filter fun c=>decide ((l.length:Int)<c.n)
def tk (c e:Int) (l:List Cv) (m:Msg):List Cv:=if tkE c e l m=0 then nw l m.cs else []
def uq (c e:Int) (m:Msg):Int:=if c=0 then(if m.e<e then 12 else if e<m.e then 2 else 0)else 2
def knB (m:Msg):Bool:=decide (m.k=3)||(decide (m.k=1)&&decide (m.r=2))
def vR (c e k:Int) (m:Msg):Int:=if uq c e m=0 then(if knB m=true then max k m.n else max k 0)else 0
def knF (c e:Int) (m:Msg):Bool:=decide (uq c e m=0)&&knB m
end Tak
end Go.Proofs.YtlmkaljjocflmaaGreatDoor
