/-
  The law's types are made of numbers, truths, bytes and rows.
-/
import Derived.Test.YtkjjglnbbahbkaaDoorShapes
import Derived.Test.YtkjjglnbbahbkaaDoorBytes
import Derived.KernelRfl
namespace Go.Proofs.YtkjjglnbbahbkaaDoor
open Go.RowKit

theorem Flat.mkS {P : Program} {t : TypeId} {fs : Array Field} (kk : List (List Ki)) (h : P.underlying t = some (.struct fs)) (hn : fs.size = kk.length) (hc : P.cellsOf t = kk.flatten.length)
    (ha : ∀ (i : Nat), i < kk.length → ∃ f ks, fs[i]? = some f ∧ kk[i]? = some ks ∧ (f.offset = (kk.take i).flatten.length ∧ P.cellsOf f.type = ks.length) ∧ Flat P f.type ks) : Flat P t kk.flatten := by
  refine .struct h hn hc (fun i f ks hf hk => ?_) (fun i f ks hf hk => ?_)
  all_goals
    obtain ⟨f', ks', h1, h2, h3, h4⟩ := ha i (List.getElem?_eq_some_iff.1 hk).1
    rw [hf] at h1
    rw [hk] at h2
    obtain rfl := Option.some.inj h1
    obtain rfl := Option.some.inj h2
    assumption
theorem fInt : Flat Tryd.prog 3 [.int] := .int Tryd.underlying3
theorem fBool : Flat Tryd.prog 4 [.bool] := .bool Tryd.underlying4
theorem fByt : Flat Tryd.prog 26 [.byt] := .byt Tryd.underlying26 Tryd.underlying5 (by kernel_rfl)
theorem fstEntry : Flat Tryd.prog 135 kEntry :=
  Flat.mkS [[.int], [.byt]] Tryd.underlying135 rfl (by kernel_rfl) (fun i hi => match i, hi with
    | 0, _ => ⟨_, _, rfl, rfl, ⟨rfl, by kernel_rfl⟩, fInt⟩
    | 1, _ => ⟨_, _, rfl, rfl, ⟨rfl, by kernel_rfl⟩, fByt⟩
    | i + 2, hi => absurd hi (by simp))
theorem fslEntry : Flat Tryd.prog 105 [.row kEntry] := .row Tryd.underlying105 (by kernel_rfl) (by decide) fstEntry
theorem fstMessage : Flat Tryd.prog 107 kMessage :=
  Flat.mkS [[.int], [.int], [.int], [.int], [.int], [.int], [.int], [.bool], [.row kEntry], [.byt]] Tryd.underlying107 rfl (by kernel_rfl) (fun i hi => match i, hi with
    | 0, _ => ⟨_, _, rfl, rfl, ⟨rfl, by kernel_rfl⟩, fInt⟩
    | 1, _ => ⟨_, _, rfl, rfl, ⟨rfl, by kernel_rfl⟩, fInt⟩
    | 2, _ => ⟨_, _, rfl, rfl, ⟨rfl, by kernel_rfl⟩, fInt⟩
    | 3, _ => ⟨_, _, rfl, rfl, ⟨rfl, by kernel_rfl⟩, fInt⟩
    | 4, _ => ⟨_, _, rfl, rfl, ⟨rfl, by kernel_rfl⟩, fInt⟩
    | 5, _ => ⟨_, _, rfl, rfl, ⟨rfl, by kernel_rfl⟩, fInt⟩
    | 6, _ => ⟨_, _, rfl, rfl, ⟨rfl, by kernel_rfl⟩, fInt⟩
    | 7, _ => ⟨_, _, rfl, rfl, ⟨rfl, by kernel_rfl⟩, fBool⟩
    | 8, _ => ⟨_, _, rfl, rfl, ⟨rfl, by kernel_rfl⟩, fslEntry⟩
    | 9, _ => ⟨_, _, rfl, rfl, ⟨rfl, by kernel_rfl⟩, fByt⟩
    | i + 10, hi => absurd hi (by simp))
theorem fslMessage : Flat Tryd.prog 66 [.row kMessage] := .row Tryd.underlying66 (by kernel_rfl) (by decide) fstMessage
theorem fstAck : Flat Tryd.prog 111 kAck :=
  Flat.mkS [[.int], [.int], [.int], [.int], [.int]] Tryd.underlying111 rfl (by kernel_rfl) (fun i hi => match i, hi with
    | 0, _ => ⟨_, _, rfl, rfl, ⟨rfl, by kernel_rfl⟩, fInt⟩
    | 1, _ => ⟨_, _, rfl, rfl, ⟨rfl, by kernel_rfl⟩, fInt⟩
    | 2, _ => ⟨_, _, rfl, rfl, ⟨rfl, by kernel_rfl⟩, fInt⟩
    | 3, _ => ⟨_, _, rfl, rfl, ⟨rfl, by kernel_rfl⟩, fInt⟩
    | 4, _ => ⟨_, _, rfl, rfl, ⟨rfl, by kernel_rfl⟩, fInt⟩
    | i + 5, hi => absurd hi (by simp))
theorem fslAck : Flat Tryd.prog 65 [.row kAck] := .row Tryd.underlying65 (by kernel_rfl) (by decide) fstAck
theorem fstItem : Flat Tryd.prog 60 kItem :=
  Flat.mkS [[.int], [.int], [.byt]] Tryd.underlying60 rfl (by kernel_rfl) (fun i hi => match i, hi with
    | 0, _ => ⟨_, _, rfl, rfl, ⟨rfl, by kernel_rfl⟩, fInt⟩
    | 1, _ => ⟨_, _, rfl, rfl, ⟨rfl, by kernel_rfl⟩, fInt⟩
    | 2, _ => ⟨_, _, rfl, rfl, ⟨rfl, by kernel_rfl⟩, fByt⟩
    | i + 3, hi => absurd hi (by simp))
theorem fslItem : Flat Tryd.prog 61 [.row kItem] := .row Tryd.underlying61 (by kernel_rfl) (by decide) fstItem
theorem fstSession : Flat Tryd.prog 122 kSession :=
  Flat.mkS [[.int], [.int], [.int], [.byt]] Tryd.underlying122 rfl (by kernel_rfl) (fun i hi => match i, hi with
    | 0, _ => ⟨_, _, rfl, rfl, ⟨rfl, by kernel_rfl⟩, fInt⟩
    | 1, _ => ⟨_, _, rfl, rfl, ⟨rfl, by kernel_rfl⟩, fInt⟩
    | 2, _ => ⟨_, _, rfl, rfl, ⟨rfl, by kernel_rfl⟩, fInt⟩
    | 3, _ => ⟨_, _, rfl, rfl, ⟨rfl, by kernel_rfl⟩, fByt⟩
    | i + 4, hi => absurd hi (by simp))
theorem fslSession : Flat Tryd.prog 62 [.row kSession] := .row Tryd.underlying62 (by kernel_rfl) (by decide) fstSession
theorem fstService : Flat Tryd.prog 64 kService :=
  Flat.mkS [[.int], [.row kItem], [.row kSession]] Tryd.underlying64 rfl (by kernel_rfl) (fun i hi => match i, hi with
    | 0, _ => ⟨_, _, rfl, rfl, ⟨rfl, by kernel_rfl⟩, fInt⟩
    | 1, _ => ⟨_, _, rfl, rfl, ⟨rfl, by kernel_rfl⟩, fslItem⟩
    | 2, _ => ⟨_, _, rfl, rfl, ⟨rfl, by kernel_rfl⟩, fslSession⟩
    | i + 3, hi => absurd hi (by simp))
theorem fstView : Flat Tryd.prog 67 kView :=
  Flat.mkS [[.int], [.int], [.int], [.int], [.int], [.int], [.int], [.int]] Tryd.underlying67 rfl (by kernel_rfl) (fun i hi => match i, hi with
    | 0, _ => ⟨_, _, rfl, rfl, ⟨rfl, by kernel_rfl⟩, fInt⟩
    | 1, _ => ⟨_, _, rfl, rfl, ⟨rfl, by kernel_rfl⟩, fInt⟩
    | 2, _ => ⟨_, _, rfl, rfl, ⟨rfl, by kernel_rfl⟩, fInt⟩
    | 3, _ => ⟨_, _, rfl, rfl, ⟨rfl, by kernel_rfl⟩, fInt⟩
    | 4, _ => ⟨_, _, rfl, rfl, ⟨rfl, by kernel_rfl⟩, fInt⟩
    | 5, _ => ⟨_, _, rfl, rfl, ⟨rfl, by kernel_rfl⟩, fInt⟩
    | 6, _ => ⟨_, _, rfl, rfl, ⟨rfl, by kernel_rfl⟩, fInt⟩
    | 7, _ => ⟨_, _, rfl, rfl, ⟨rfl, by kernel_rfl⟩, fInt⟩
    | i + 8, hi => absurd hi (by simp))
theorem fstObs : Flat Tryd.prog 69 kObs :=
  Flat.mkS [[.int], [.int], kItem, kService, [.row kAck], [.row kMessage], kView] Tryd.underlying69 rfl (by kernel_rfl) (fun i hi => match i, hi with
    | 0, _ => ⟨_, _, rfl, rfl, ⟨rfl, by kernel_rfl⟩, fInt⟩
    | 1, _ => ⟨_, _, rfl, rfl, ⟨rfl, by kernel_rfl⟩, fInt⟩
    | 2, _ => ⟨_, _, rfl, rfl, ⟨rfl, by kernel_rfl⟩, fstItem⟩
    | 3, _ => ⟨_, _, rfl, rfl, ⟨rfl, by kernel_rfl⟩, fstService⟩
    | 4, _ => ⟨_, _, rfl, rfl, ⟨rfl, by kernel_rfl⟩, fslAck⟩
    | 5, _ => ⟨_, _, rfl, rfl, ⟨rfl, by kernel_rfl⟩, fslMessage⟩
    | 6, _ => ⟨_, _, rfl, rfl, ⟨rfl, by kernel_rfl⟩, fstView⟩
    | i + 7, hi => absurd hi (by simp))
theorem fslObs : Flat Tryd.prog 22 [.row kObs] := .row Tryd.underlying22 (by kernel_rfl) (by decide) fstObs
end Go.Proofs.YtkjjglnbbahbkaaDoor
