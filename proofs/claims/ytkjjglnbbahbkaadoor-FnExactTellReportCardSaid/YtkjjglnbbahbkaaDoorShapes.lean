/-
  The shapes of the types of a report.
-/
import Derived.Test.YtkjjglnbbahbkaaDoorTree2
namespace Go.Proofs.YtkjjglnbbahbkaaDoor
open Go.RowKit

def kEntry : List Ki := [.int, .byt]
def kMessage : List Ki := [.int, .int, .int, .int, .int, .int, .int, .bool, .row kEntry, .byt]
def kAck : List Ki := [.int, .int, .int, .int, .int]
def kItem : List Ki := [.int, .int, .byt]
def kSession : List Ki := [.int, .int, .int, .byt]
def kService : List Ki := [.int, .row kItem, .row kSession]
def kView : List Ki := [.int, .int, .int, .int, .int, .int, .int, .int]
def kObs : List Ki := [.int, .int, .int, .int, .byt, .int, .row kItem, .row kSession, .row kAck, .row kMessage, .int, .int, .int, .int, .int, .int, .int, .int]
theorem fitEntry {e : List Tr} (h : FitsL e kEntry) : ∃ n0 d1 a1 p1, e = [.int n0, .byt d1 a1 p1] := by
  obtain ⟨y0, e0, rfl, f0, h0⟩ := FitsL.cons h
  obtain ⟨n0, rfl⟩ := f0.isInt
  obtain ⟨y1, e1, rfl, f1, h1⟩ := FitsL.cons h0
  obtain ⟨d1, a1, p1, rfl⟩ := f1.isByt
  obtain rfl := h1.nil
  exact ⟨n0, d1, a1, p1, rfl⟩
theorem fitMessage {e : List Tr} (h : FitsL e kMessage) : ∃ n0 n1 n2 n3 n4 n5 n6 b7 L8 a8 p8 d9 a9 p9, e = [.int n0, .int n1, .int n2, .int n3, .int n4, .int n5, .int n6, .bool b7, .row kEntry.length a8 p8 L8, .byt d9 a9 p9] := by
  obtain ⟨y0, e0, rfl, f0, h0⟩ := FitsL.cons h
  obtain ⟨n0, rfl⟩ := f0.isInt
  obtain ⟨y1, e1, rfl, f1, h1⟩ := FitsL.cons h0
  obtain ⟨n1, rfl⟩ := f1.isInt
  obtain ⟨y2, e2, rfl, f2, h2⟩ := FitsL.cons h1
  obtain ⟨n2, rfl⟩ := f2.isInt
  obtain ⟨y3, e3, rfl, f3, h3⟩ := FitsL.cons h2
  obtain ⟨n3, rfl⟩ := f3.isInt
  obtain ⟨y4, e4, rfl, f4, h4⟩ := FitsL.cons h3
  obtain ⟨n4, rfl⟩ := f4.isInt
  obtain ⟨y5, e5, rfl, f5, h5⟩ := FitsL.cons h4
  obtain ⟨n5, rfl⟩ := f5.isInt
  obtain ⟨y6, e6, rfl, f6, h6⟩ := FitsL.cons h5
  obtain ⟨n6, rfl⟩ := f6.isInt
  obtain ⟨y7, e7, rfl, f7, h7⟩ := FitsL.cons h6
  obtain ⟨b7, rfl⟩ := f7.isBool
  obtain ⟨y8, e8, rfl, f8, h8⟩ := FitsL.cons h7
  obtain ⟨a8, p8, L8, rfl⟩ := f8.isRow
  obtain ⟨y9, e9, rfl, f9, h9⟩ := FitsL.cons h8
  obtain ⟨d9, a9, p9, rfl⟩ := f9.isByt
  obtain rfl := h9.nil
  exact ⟨n0, n1, n2, n3, n4, n5, n6, b7, L8, a8, p8, d9, a9, p9, rfl⟩
theorem fitAck {e : List Tr} (h : FitsL e kAck) : ∃ n0 n1 n2 n3 n4, e = [.int n0, .int n1, .int n2, .int n3, .int n4] := by
  obtain ⟨y0, e0, rfl, f0, h0⟩ := FitsL.cons h
  obtain ⟨n0, rfl⟩ := f0.isInt
  obtain ⟨y1, e1, rfl, f1, h1⟩ := FitsL.cons h0
  obtain ⟨n1, rfl⟩ := f1.isInt
  obtain ⟨y2, e2, rfl, f2, h2⟩ := FitsL.cons h1
  obtain ⟨n2, rfl⟩ := f2.isInt
  obtain ⟨y3, e3, rfl, f3, h3⟩ := FitsL.cons h2
  obtain ⟨n3, rfl⟩ := f3.isInt
  obtain ⟨y4, e4, rfl, f4, h4⟩ := FitsL.cons h3
  obtain ⟨n4, rfl⟩ := f4.isInt
  obtain rfl := h4.nil
  exact ⟨n0, n1, n2, n3, n4, rfl⟩
theorem fitItem {e : List Tr} (h : FitsL e kItem) : ∃ n0 n1 d2 a2 p2, e = [.int n0, .int n1, .byt d2 a2 p2] := by
  obtain ⟨y0, e0, rfl, f0, h0⟩ := FitsL.cons h
  obtain ⟨n0, rfl⟩ := f0.isInt
  obtain ⟨y1, e1, rfl, f1, h1⟩ := FitsL.cons h0
  obtain ⟨n1, rfl⟩ := f1.isInt
  obtain ⟨y2, e2, rfl, f2, h2⟩ := FitsL.cons h1
  obtain ⟨d2, a2, p2, rfl⟩ := f2.isByt
  obtain rfl := h2.nil
  exact ⟨n0, n1, d2, a2, p2, rfl⟩
theorem fitSession {e : List Tr} (h : FitsL e kSession) : ∃ n0 n1 n2 d3 a3 p3, e = [.int n0, .int n1, .int n2, .byt d3 a3 p3] := by
  obtain ⟨y0, e0, rfl, f0, h0⟩ := FitsL.cons h
  obtain ⟨n0, rfl⟩ := f0.isInt
  obtain ⟨y1, e1, rfl, f1, h1⟩ := FitsL.cons h0
  obtain ⟨n1, rfl⟩ := f1.isInt
  obtain ⟨y2, e2, rfl, f2, h2⟩ := FitsL.cons h1
  obtain ⟨n2, rfl⟩ := f2.isInt
  obtain ⟨y3, e3, rfl, f3, h3⟩ := FitsL.cons h2
  obtain ⟨d3, a3, p3, rfl⟩ := f3.isByt
  obtain rfl := h3.nil
  exact ⟨n0, n1, n2, d3, a3, p3, rfl⟩
theorem fitService {e : List Tr} (h : FitsL e kService) : ∃ n0 L1 a1 p1 L2 a2 p2, e = [.int n0, .row kItem.length a1 p1 L1, .row kSession.length a2 p2 L2] := by
  obtain ⟨y0, e0, rfl, f0, h0⟩ := FitsL.cons h
  obtain ⟨n0, rfl⟩ := f0.isInt
  obtain ⟨y1, e1, rfl, f1, h1⟩ := FitsL.cons h0
  obtain ⟨a1, p1, L1, rfl⟩ := f1.isRow
  obtain ⟨y2, e2, rfl, f2, h2⟩ := FitsL.cons h1
  obtain ⟨a2, p2, L2, rfl⟩ := f2.isRow
  obtain rfl := h2.nil
  exact ⟨n0, L1, a1, p1, L2, a2, p2, rfl⟩
theorem fitView {e : List Tr} (h : FitsL e kView) : ∃ n0 n1 n2 n3 n4 n5 n6 n7, e = [.int n0, .int n1, .int n2, .int n3, .int n4, .int n5, .int n6, .int n7] := by
  obtain ⟨y0, e0, rfl, f0, h0⟩ := FitsL.cons h
  obtain ⟨n0, rfl⟩ := f0.isInt
  obtain ⟨y1, e1, rfl, f1, h1⟩ := FitsL.cons h0
  obtain ⟨n1, rfl⟩ := f1.isInt
  obtain ⟨y2, e2, rfl, f2, h2⟩ := FitsL.cons h1
  obtain ⟨n2, rfl⟩ := f2.isInt
  obtain ⟨y3, e3, rfl, f3, h3⟩ := FitsL.cons h2
  obtain ⟨n3, rfl⟩ := f3.isInt
  obtain ⟨y4, e4, rfl, f4, h4⟩ := FitsL.cons h3
  obtain ⟨n4, rfl⟩ := f4.isInt
  obtain ⟨y5, e5, rfl, f5, h5⟩ := FitsL.cons h4
  obtain ⟨n5, rfl⟩ := f5.isInt
  obtain ⟨y6, e6, rfl, f6, h6⟩ := FitsL.cons h5
  obtain ⟨n6, rfl⟩ := f6.isInt
  obtain ⟨y7, e7, rfl, f7, h7⟩ := FitsL.cons h6
  obtain ⟨n7, rfl⟩ := f7.isInt
  obtain rfl := h7.nil
  exact ⟨n0, n1, n2, n3, n4, n5, n6, n7, rfl⟩
theorem fitObs {e : List Tr} (h : FitsL e kObs) : ∃ n0 n1 n2 n3 d4 a4 p4 n5 L6 a6 p6 L7 a7 p7 L8 a8 p8 L9 a9 p9 n10 n11 n12 n13 n14 n15 n16 n17, e = [.int n0, .int n1, .int n2, .int n3, .byt d4 a4 p4, .int n5, .row kItem.length a6 p6 L6, .row kSession.length a7 p7 L7, .row kAck.length a8 p8 L8, .row kMessage.length a9 p9 L9, .int n10, .int n11, .int n12, .int n13, .int n14, .int n15, .int n16, .int n17] := by
  obtain ⟨y0, e0, rfl, f0, h0⟩ := FitsL.cons h
  obtain ⟨n0, rfl⟩ := f0.isInt
  obtain ⟨y1, e1, rfl, f1, h1⟩ := FitsL.cons h0
  obtain ⟨n1, rfl⟩ := f1.isInt
  obtain ⟨y2, e2, rfl, f2, h2⟩ := FitsL.cons h1
  obtain ⟨n2, rfl⟩ := f2.isInt
  obtain ⟨y3, e3, rfl, f3, h3⟩ := FitsL.cons h2
  obtain ⟨n3, rfl⟩ := f3.isInt
  obtain ⟨y4, e4, rfl, f4, h4⟩ := FitsL.cons h3
  obtain ⟨d4, a4, p4, rfl⟩ := f4.isByt
  obtain ⟨y5, e5, rfl, f5, h5⟩ := FitsL.cons h4
  obtain ⟨n5, rfl⟩ := f5.isInt
  obtain ⟨y6, e6, rfl, f6, h6⟩ := FitsL.cons h5
  obtain ⟨a6, p6, L6, rfl⟩ := f6.isRow
  obtain ⟨y7, e7, rfl, f7, h7⟩ := FitsL.cons h6
  obtain ⟨a7, p7, L7, rfl⟩ := f7.isRow
  obtain ⟨y8, e8, rfl, f8, h8⟩ := FitsL.cons h7
  obtain ⟨a8, p8, L8, rfl⟩ := f8.isRow
  obtain ⟨y9, e9, rfl, f9, h9⟩ := FitsL.cons h8
  obtain ⟨a9, p9, L9, rfl⟩ := f9.isRow
  obtain ⟨y10, e10, rfl, f10, h10⟩ := FitsL.cons h9
  obtain ⟨n10, rfl⟩ := f10.isInt
  obtain ⟨y11, e11, rfl, f11, h11⟩ := FitsL.cons h10
  obtain ⟨n11, rfl⟩ := f11.isInt
  obtain ⟨y12, e12, rfl, f12, h12⟩ := FitsL.cons h11
  obtain ⟨n12, rfl⟩ := f12.isInt
  obtain ⟨y13, e13, rfl, f13, h13⟩ := FitsL.cons h12
  obtain ⟨n13, rfl⟩ := f13.isInt
  obtain ⟨y14, e14, rfl, f14, h14⟩ := FitsL.cons h13
  obtain ⟨n14, rfl⟩ := f14.isInt
  obtain ⟨y15, e15, rfl, f15, h15⟩ := FitsL.cons h14
  obtain ⟨n15, rfl⟩ := f15.isInt
  obtain ⟨y16, e16, rfl, f16, h16⟩ := FitsL.cons h15
  obtain ⟨n16, rfl⟩ := f16.isInt
  obtain ⟨y17, e17, rfl, f17, h17⟩ := FitsL.cons h16
  obtain ⟨n17, rfl⟩ := f17.isInt
  obtain rfl := h17.nil
  exact ⟨n0, n1, n2, n3, d4, a4, p4, n5, L6, a6, p6, L7, a7, p7, L8, a8, p8, L9, a9, p9, n10, n11, n12, n13, n14, n15, n16, n17, rfl⟩
end Go.Proofs.YtkjjglnbbahbkaaDoor
