/-
  The program's apply, on every road: one contract.
-/
import Derived.Test.YtdajcpcajdhplaaDoorAp3
import Derived.Test.YtdajcpcajdhplaaDoorAp4
namespace Go.Proofs.YtdajcpcajdhplaaDoor
open Go.RowKit

/-- what apply tells of a service's kept items and sessions: the place, the code, what is kept then -/
def ApSays (b : Int) (K : List El) (S : List El) (zs : List Nat) (x0 : Int) (x1 : Int) (x2 : List (List Int × List Nat)) (x3 : List (List Int × List Nat)) : Prop :=
  ∀ P : Int → Int → List (List Int × List Nat) → List (List Int × List Nat) → Prop, (∀ (_h : zs = []), P 0 0 (K.map El.tell) (S.map El.tell)) →
    (∀ (_h : zs ≠ []) (_hd : ¬ decGood zs), P 0 5 (K.map El.tell) (S.map El.tell)) →
    (∀ (_hd : decGood zs) (k : Nat) (x : El) (_hk : Spot S (decCl zs : Int) k) (_hx : S[k]? = some x) (_hc : x.c = (decCl zs : Int)) (_hq : (decSq zs : Int) ≤ x.q) (_hs : sameItem x.q x.d (decSq zs : Int) (zs.drop 8)), P x.i 0 (K.map El.tell) (S.map El.tell)) →
    (∀ (_hd : decGood zs) (k : Nat) (x : El) (_hk : Spot S (decCl zs : Int) k) (_hx : S[k]? = some x) (_hc : x.c = (decCl zs : Int)) (_hq : (decSq zs : Int) ≤ x.q) (_hs : ¬ sameItem x.q x.d (decSq zs : Int) (zs.drop 8)), P 0 4 (K.map El.tell) (S.map El.tell)) →
    (∀ (_hd : decGood zs) (k : Nat) (_hk : Spot S (decCl zs : Int) k) (_hq : ∀ x, S[k]? = some x → x.c = (decCl zs : Int) → x.q < (decSq zs : Int)) (_hf : b + (K.length : Int) = 1000000), P 0 6 (K.map El.tell) (S.map El.tell)) →
    (∀ (_hd : decGood zs) (k : Nat) (x : El) (_hk : Spot S (decCl zs : Int) k) (_hx : S[k]? = some x) (_hc : x.c = (decCl zs : Int)) (_hq : x.q < (decSq zs : Int)) (_hf : b + (K.length : Int) ≠ 1000000), P (b + (K.length : Int)) 0 (K.map El.tell ++ [([(decCl zs : Int), (decSq zs : Int)], zs.drop 8)]) ((S.map El.tell).set k ([(decCl zs : Int), (decSq zs : Int), b + (K.length : Int)], zs.drop 8))) →
    (∀ (_hd : decGood zs) (k : Nat) (_hk : Spot S (decCl zs : Int) k) (_hu : knownAt S (decCl zs : Int) k = false) (_hf : b + (K.length : Int) ≠ 1000000), P (b + (K.length : Int)) 0 (K.map El.tell ++ [([(decCl zs : Int), (decSq zs : Int)], zs.drop 8)]) ((S.map El.tell).take k ++ ([(decCl zs : Int), (decSq zs : Int), b + (K.length : Int)], zs.drop 8) :: (S.map El.tell).drop k)) → P x0 x1 x2 x3
theorem ApSays.empty {b : Int} {K : List El} {S : List El} {zs : List Nat} (h : zs = []) : ApSays b K S zs 0 0 (K.map El.tell) (S.map El.tell) := fun _ c0 _ _ _ _ _ _ => c0 h
theorem ApSays.bad {b : Int} {K : List El} {S : List El} {zs : List Nat} (h : zs ≠ []) (hd : ¬ decGood zs) : ApSays b K S zs 0 5 (K.map El.tell) (S.map El.tell) := fun _ _ c1 _ _ _ _ _ => c1 h hd
theorem ApSays.again {b : Int} {K : List El} {S : List El} {zs : List Nat} (hd : decGood zs) (k : Nat) (x : El) (hk : Spot S (decCl zs : Int) k) (hx : S[k]? = some x) (hc : x.c = (decCl zs : Int)) (hq : (decSq zs : Int) ≤ x.q) (hs : sameItem x.q x.d (decSq zs : Int) (zs.drop 8)) : ApSays b K S zs x.i 0 (K.map El.tell) (S.map El.tell) := fun _ _ _ c2 _ _ _ _ => c2 hd k x hk hx hc hq hs
theorem ApSays.exist {b : Int} {K : List El} {S : List El} {zs : List Nat} (hd : decGood zs) (k : Nat) (x : El) (hk : Spot S (decCl zs : Int) k) (hx : S[k]? = some x) (hc : x.c = (decCl zs : Int)) (hq : (decSq zs : Int) ≤ x.q) (hs : ¬ sameItem x.q x.d (decSq zs : Int) (zs.drop 8)) : ApSays b K S zs 0 4 (K.map El.tell) (S.map El.tell) := fun _ _ _ _ c3 _ _ _ => c3 hd k x hk hx hc hq hs
theorem ApSays.full {b : Int} {K : List El} {S : List El} {zs : List Nat} (hd : decGood zs) (k : Nat) (hk : Spot S (decCl zs : Int) k) (hq : ∀ x, S[k]? = some x → x.c = (decCl zs : Int) → x.q < (decSq zs : Int)) (hf : b + (K.length : Int) = 1000000) : ApSays b K S zs 0 6 (K.map El.tell) (S.map El.tell) := fun _ _ _ _ _ c4 _ _ => c4 hd k hk hq hf
theorem ApSays.old {b : Int} {K : List El} {S : List El} {zs : List Nat} (hd : decGood zs) (k : Nat) (x : El) (hk : Spot S (decCl zs : Int) k) (hx : S[k]? = some x) (hc : x.c = (decCl zs : Int)) (hq : x.q < (decSq zs : Int)) (hf : b + (K.length : Int) ≠ 1000000) : ApSays b K S zs (b + (K.length : Int)) 0 (K.map El.tell ++ [([(decCl zs : Int), (decSq zs : Int)], zs.drop 8)]) ((S.map El.tell).set k ([(decCl zs : Int), (decSq zs : Int), b + (K.length : Int)], zs.drop 8)) := fun _ _ _ _ _ _ c5 _ => c5 hd k x hk hx hc hq hf
theorem ApSays.new {b : Int} {K : List El} {S : List El} {zs : List Nat} (hd : decGood zs) (k : Nat) (hk : Spot S (decCl zs : Int) k) (hu : knownAt S (decCl zs : Int) k = false) (hf : b + (K.length : Int) ≠ 1000000) : ApSays b K S zs (b + (K.length : Int)) 0 (K.map El.tell ++ [([(decCl zs : Int), (decSq zs : Int)], zs.drop 8)]) ((S.map El.tell).take k ++ ([(decCl zs : Int), (decSq zs : Int), b + (K.length : Int)], zs.drop 8) :: (S.map El.tell).drop k) := fun _ _ _ _ _ _ _ c6 => c6 hd k hk hu hf
theorem ApSays.elim {b : Int} {K : List El} {S : List El} {zs : List Nat} {motive : (x0 : Int) → (x1 : Int) → (x2 : List (List Int × List Nat)) → (x3 : List (List Int × List Nat)) → ApSays b K S zs x0 x1 x2 x3 → Prop}
    (empty : ∀ (h : zs = []), motive 0 0 (K.map El.tell) (S.map El.tell) (.empty h))
    (bad : ∀ (h : zs ≠ []) (hd : ¬ decGood zs), motive 0 5 (K.map El.tell) (S.map El.tell) (.bad h hd))
    (again : ∀ (hd : decGood zs) (k : Nat) (x : El) (hk : Spot S (decCl zs : Int) k) (hx : S[k]? = some x) (hc : x.c = (decCl zs : Int)) (hq : (decSq zs : Int) ≤ x.q) (hs : sameItem x.q x.d (decSq zs : Int) (zs.drop 8)), motive x.i 0 (K.map El.tell) (S.map El.tell) (.again hd k x hk hx hc hq hs))
    (exist : ∀ (hd : decGood zs) (k : Nat) (x : El) (hk : Spot S (decCl zs : Int) k) (hx : S[k]? = some x) (hc : x.c = (decCl zs : Int)) (hq : (decSq zs : Int) ≤ x.q) (hs : ¬ sameItem x.q x.d (decSq zs : Int) (zs.drop 8)), motive 0 4 (K.map El.tell) (S.map El.tell) (.exist hd k x hk hx hc hq hs))
    (full : ∀ (hd : decGood zs) (k : Nat) (hk : Spot S (decCl zs : Int) k) (hq : ∀ x, S[k]? = some x → x.c = (decCl zs : Int) → x.q < (decSq zs : Int)) (hf : b + (K.length : Int) = 1000000), motive 0 6 (K.map El.tell) (S.map El.tell) (.full hd k hk hq hf))
    (old : ∀ (hd : decGood zs) (k : Nat) (x : El) (hk : Spot S (decCl zs : Int) k) (hx : S[k]? = some x) (hc : x.c = (decCl zs : Int)) (hq : x.q < (decSq zs : Int)) (hf : b + (K.length : Int) ≠ 1000000), motive (b + (K.length : Int)) 0 (K.map El.tell ++ [([(decCl zs : Int), (decSq zs : Int)], zs.drop 8)]) ((S.map El.tell).set k ([(decCl zs : Int), (decSq zs : Int), b + (K.length : Int)], zs.drop 8)) (.old hd k x hk hx hc hq hf))
    (new : ∀ (hd : decGood zs) (k : Nat) (hk : Spot S (decCl zs : Int) k) (hu : knownAt S (decCl zs : Int) k = false) (hf : b + (K.length : Int) ≠ 1000000), motive (b + (K.length : Int)) 0 (K.map El.tell ++ [([(decCl zs : Int), (decSq zs : Int)], zs.drop 8)]) ((S.map El.tell).take k ++ ([(decCl zs : Int), (decSq zs : Int), b + (K.length : Int)], zs.drop 8) :: (S.map El.tell).drop k) (.new hd k hk hu hf))
    {x0 : Int} {x1 : Int} {x2 : List (List Int × List Nat)} {x3 : List (List Int × List Nat)} (h : ApSays b K S zs x0 x1 x2 x3) : motive x0 x1 x2 x3 h :=
  (h (fun x0 x1 x2 x3 => ∃ h : ApSays b K S zs x0 x1 x2 x3, motive x0 x1 x2 x3 h) (fun h => ⟨.empty h, empty h ⟩)
    (fun h hd => ⟨.bad h hd, bad h hd ⟩)
    (fun hd k x hk hx hc hq hs => ⟨.again hd k x hk hx hc hq hs, again hd k x hk hx hc hq hs ⟩)
    (fun hd k x hk hx hc hq hs => ⟨.exist hd k x hk hx hc hq hs, exist hd k x hk hx hc hq hs ⟩)
    (fun hd k hk hq hf => ⟨.full hd k hk hq hf, full hd k hk hq hf ⟩)
    (fun hd k x hk hx hc hq hf => ⟨.old hd k x hk hx hc hq hf, old hd k x hk hx hc hq hf ⟩)
    (fun hd k hk hu hf => ⟨.new hd k hk hu hf, new hd k hk hu hf ⟩)).elim fun _ b => b
/-- an error and its code -/
def ErrSays (ad : Nat → Addr) (er : Value) (c : Int) : Prop := (er = .nilIface ∧ c = 0) ∨ (er = .iface 150 (.pointer (some (ad 0))) ∧ c = 5) ∨ (er = .iface 150 (.pointer (some (ad 1))) ∧ c = 6) ∨ (er = .iface 150 (.pointer (some (ad 4))) ∧ c = 4)
theorem codeOf_says (ad : Nat → Addr) (er : Value) (c : Int) (w : World) (hE : ErrsAt w ad) (h : ErrSays ad er c) : Calls Tryd.prog 36 #[er] w fun e w' => e = .returned (.int .i64 c) ∧ w.grownBy w' none := by
  rcases h with ⟨rfl, rfl⟩ | ⟨rfl, rfl⟩ | ⟨rfl, rfl⟩ | ⟨rfl, rfl⟩
  · exact codeOf_nil w
  · exact codeOf_err0 ad w hE
  · exact codeOf_err1 ad w hE
  · exact codeOf_err4 ad w hE
theorem known_of (S : List El) (key : Int) (k : Nat) : knownAt S key k = false ∨ ∃ x, S[k]? = some x ∧ x.c = key := by
  unfold knownAt
  cases h : S[k]? with
  | none => exact .inl rfl
  | some x =>
    by_cases hx : x.c = key
    · exact .inr ⟨x, rfl, hx⟩
    · exact .inl (by simp [hx])
theorem apply_any (p gk gs : Nat) (b : Int) (K S : List El) (oa : Option Addr) (len cap : Nat) (zs : List Nat) (ad : Nat → Addr) (w : World) (hE : ErrsAt w ad) (hsl : SlB w oa len zs) (hcp : len ≤ cap) (hm : len ≤ 1073741824)
    (hp : w.heap[p]? = some (.cells #[.int .i64 b, .slice (some ⟨gk, 0, none⟩) K.length K.length, .slice (some ⟨gs, 0, none⟩) S.length S.length] 28 (0, 0))) (hK : ElAt w 32 2 gk K) (hS : ElAt w 74 3 gs S)
    (hfar : ∀ x ∈ K, ∀ y ∈ S, ∀ j, x.o = some j → y.o ≠ some j) (hr : risesE 0 S) (hn : S.length ≤ 1048576) (hkn : K.length ≤ 1048576) (hb : -1000000000000 ≤ b ∧ b ≤ 1000000000000) :
    Calls Tryd.prog 35 #[.pointer (some ⟨p, 0, none⟩), .slice oa len cap] w fun e w' => ∃ (pl c : Int) (er : Value) (gk' kc' gs' sc' : Nat) (K' S' : List El), e = .returned (.tuple #[.int .i64 pl, er]) ∧ ErrSays ad er c ∧ ApSays b K S zs pl c (K'.map El.tell) (S'.map El.tell) ∧
      w'.heap[p]? = some (.cells #[.int .i64 b, .slice (some ⟨gk', 0, none⟩) K'.length kc', .slice (some ⟨gs', 0, none⟩) S'.length sc'] 28 (0, 0)) ∧ ElAt w' 32 2 gk' K' ∧ ElAt w' 74 3 gs' S' ∧ (∀ x ∈ K', ∀ y ∈ S', ∀ j, x.o = some j → y.o ≠ some j) ∧ (∀ j, (ElB (some ⟨gk', 0, none⟩) K' j ∨ ElB (some ⟨gs', 0, none⟩) S' j) → (ElB (some ⟨gk, 0, none⟩) K j ∨ ElB (some ⟨gs, 0, none⟩) S j) ∨ w.heap.size ≤ j) ∧ Only (fun j => j = p ∨ j = gs) w w' := by
  have hl := hsl.1
  have hpl := (Array.getElem?_eq_some_iff.1 hp).1
  have same : ∀ {w' : World} {pl c : Int} {er : Value}, w.grownBy w' none → ErrSays ad er c → ApSays b K S zs pl c (K.map El.tell) (S.map El.tell) → ∃ (pl' c' : Int) (er' : Value) (gk' kc' gs' sc' : Nat) (K' S' : List El), Ending.returned (.tuple #[.int .i64 pl, er]) = .returned (.tuple #[.int .i64 pl', er']) ∧ ErrSays ad er' c' ∧ ApSays b K S zs pl' c' (K'.map El.tell) (S'.map El.tell) ∧
      w'.heap[p]? = some (.cells #[.int .i64 b, .slice (some ⟨gk', 0, none⟩) K'.length kc', .slice (some ⟨gs', 0, none⟩) S'.length sc'] 28 (0, 0)) ∧ ElAt w' 32 2 gk' K' ∧ ElAt w' 74 3 gs' S' ∧ (∀ x ∈ K', ∀ y ∈ S', ∀ j, x.o = some j → y.o ≠ some j) ∧ (∀ j, (ElB (some ⟨gk', 0, none⟩) K' j ∨ ElB (some ⟨gs', 0, none⟩) S' j) → (ElB (some ⟨gk, 0, none⟩) K j ∨ ElB (some ⟨gs, 0, none⟩) S j) ∨ w.heap.size ≤ j) ∧ Only (fun j => j = p ∨ j = gs) w w' := fun {w' pl c er} hg he ha =>
    ⟨pl, c, er, gk, K.length, gs, S.length, K, S, rfl, he, ha, (hg.block p hpl (by simp)).trans hp, hK.kept (fun j hj _ => hg.block j hj (by simp)), hS.kept (fun j hj _ => hg.block j hj (by simp)), hfar, fun j hj => .inl hj, Only.of hg (fun k e => by cases e)⟩
  by_cases h0 : len = 0
  · subst h0
    refine (apply_empty _ oa cap w).mono ?_
    rintro e w' ⟨rfl, hg⟩
    exact same hg (.inl ⟨rfl, rfl⟩) (.empty (List.eq_nil_of_length_eq_zero hl))
  · have hz : zs ≠ [] := fun e => h0 (by rw [← hl, e]; rfl)
    by_cases hd : decGood zs
    · obtain ⟨k, hk⟩ := spot_ex S (decCl zs : Int) 0 hr
      have hkeep : ∀ {w' : World} {SN : El → List El} {T : Nat → Prop}, (∀ j, T j → j = gs) → (∀ z, ∀ y ∈ SN z, y = z ∨ y ∈ S) → KeepOut w w' p b K.length K (decCl zs : Int) (decSq zs : Int) (zs.drop 8) SN T → (∀ z : El, z.tell = ([(decCl zs : Int), (decSq zs : Int), b + (K.length : Int)], zs.drop 8) → ApSays b K S zs (b + (K.length : Int)) 0 (K.map El.tell ++ [([(decCl zs : Int), (decSq zs : Int)], zs.drop 8)]) ((SN z).map El.tell)) →
          ∃ (pl' c' : Int) (er' : Value) (gk' kc' gs' sc' : Nat) (K' S' : List El), Ending.returned (.tuple #[.int .i64 (b + (K.length : Int)), .nilIface]) = .returned (.tuple #[.int .i64 pl', er']) ∧ ErrSays ad er' c' ∧ ApSays b K S zs pl' c' (K'.map El.tell) (S'.map El.tell) ∧
          w'.heap[p]? = some (.cells #[.int .i64 b, .slice (some ⟨gk', 0, none⟩) K'.length kc', .slice (some ⟨gs', 0, none⟩) S'.length sc'] 28 (0, 0)) ∧ ElAt w' 32 2 gk' K' ∧ ElAt w' 74 3 gs' S' ∧ (∀ x ∈ K', ∀ y ∈ S', ∀ j, x.o = some j → y.o ≠ some j) ∧ (∀ j, (ElB (some ⟨gk', 0, none⟩) K' j ∨ ElB (some ⟨gs', 0, none⟩) S' j) → (ElB (some ⟨gk, 0, none⟩) K j ∨ ElB (some ⟨gs, 0, none⟩) S j) ∨ w.heap.size ≤ j) ∧ Only (fun j => j = p ∨ j = gs) w w' := fun {w' SN T} hT hN hko hsay => by
        obtain ⟨gk', kc', gx, cx, gd, cd, gs', sc', h1, -, h3, h4, h5, h6, h7, h8, h9, h10⟩ := hko
        refine ⟨b + (K.length : Int), 0, .nilIface, gk', kc', gs', sc', _, _, rfl, .inl ⟨rfl, rfl⟩, ?_, ?_, h3, h4, fun x hx y hy j hxj hyj => ?_, fun j hj => ?_, h10.mono (fun j hj => hj.imp id (hT j))⟩
        · rw [List.map_append]
          exact hsay _ rfl
        · rw [List.length_append]
          exact h1
        · have hb1 : ∀ x ∈ K, ∀ j, x.o = some j → j < w.heap.size := fun x hx j hj => by
            obtain ⟨i, hi⟩ := List.getElem?_of_mem hx
            exact hK.blt hi hj
          have hb2 : ∀ x ∈ S, ∀ j, x.o = some j → j < w.heap.size := fun x hx j hj => by
            obtain ⟨i, hi⟩ := List.getElem?_of_mem hx
            exact hS.blt hi hj
          rcases List.mem_append.1 hx with hx | hx
          · rcases hN _ y hy with rfl | hy
            · have h11 := hb1 x hx j hxj
              have h12 : gd = j := by simpa using hyj
              omega
            · exact hfar x hx y hy j hxj hyj
          · obtain rfl : x = _ := by simpa using hx
            have h12 : gx = j := by simpa using hxj
            rcases hN _ y hy with rfl | hy
            · have h13 : gd = j := by simpa using hyj
              omega
            · have h11 := hb2 y hy j hyj
              omega
        · rcases hj with (h | ⟨x, hx, ho⟩) | (h | ⟨x, hx, ho⟩)
          · have : gk' = j := by simpa using h
            exact .inr (by omega)
          · rcases List.mem_append.1 hx with hx | hx
            · exact .inl (.inl (.inr ⟨x, hx, ho⟩))
            · obtain rfl : x = _ := by simpa using hx
              have : gx = j := by simpa using ho
              exact .inr (by omega)
          · have hgj : gs' = j := by simpa using h
            rcases h9 with h9 | h9
            · have := hT _ h9
              subst hgj this
              exact .inl (.inr (.inl rfl))
            · exact .inr (by omega)
          · rcases hN _ x hx with rfl | hx
            · have : gd = j := by simpa using ho
              exact .inr (by omega)
            · exact .inl (.inr (.inr ⟨x, hx, ho⟩))
      rcases known_of S (decCl zs : Int) k with hu | ⟨x, hx, hc⟩
      · by_cases hf : b + (K.length : Int) = 1000000
        · refine (apply_full_new p gk K.length K.length gs S.length b S k oa len cap zs ad w hsl hcp hm hd hp hS hr hn hb hkn hk hu hE hf).mono ?_
          rintro e w' ⟨rfl, hg⟩
          refine same hg (.inr (.inr (.inl ⟨rfl, rfl⟩))) (.full hd k hk (fun x hx hc => ?_) hf)
          unfold knownAt at hu
          rw [hx] at hu
          simp [hc] at hu
        · refine (apply_new p gk K.length K.length gs S.length b S k oa len cap zs K w hsl hcp hm hd hp hS hr hn hb hkn hk hu rfl hK rfl rfl hf).mono ?_
          rintro e w' ⟨rfl, hko⟩
          refine hkeep (fun j h => h.elim) (fun z y hy => by rcases List.mem_append.1 hy with h | h; exact .inr (List.mem_of_mem_take h); rcases List.mem_cons.1 h with h | h; exact .inl h; exact .inr (List.mem_of_mem_drop h)) hko (fun z hz => ?_)
          have := ApSays.new (b := b) (K := K) hd k hk hu hf
          simpa [hz] using this
      · by_cases hq : (decSq zs : Int) ≤ x.q
        · refine (apply_again p gk K.length K.length gs S.length b S k x oa len cap zs ad w hE hsl hcp hm hd hp hS hr hn hk hx hc hq).mono ?_
          rintro e w' ⟨⟨hs, rfl⟩ | ⟨hs, rfl⟩, hg⟩
          · exact same hg (.inl ⟨rfl, rfl⟩) (.again hd k x hk hx hc hq hs)
          · exact same hg (.inr (.inr (.inr ⟨rfl, rfl⟩))) (.exist hd k x hk hx hc hq hs)
        · by_cases hf : b + (K.length : Int) = 1000000
          · refine (apply_full_old p gk K.length K.length gs S.length b S k x oa len cap zs ad w hsl hcp hm hd hp hS hr hn hb hkn hk hx hc (by omega) hE hf).mono ?_
            rintro e w' ⟨rfl, hg⟩
            exact same hg (.inr (.inr (.inl ⟨rfl, rfl⟩))) (.full hd k hk (fun x' hx' _ => by rw [hx] at hx'; obtain rfl := Option.some.inj hx'; omega) hf)
          · refine (apply_old p gk K.length K.length gs S.length b S k x oa len cap zs K w hsl hcp hm hd hp hS hr hn hb hkn hk hx hc (by omega) rfl hK rfl hf).mono ?_
            rintro e w' ⟨rfl, hko⟩
            refine hkeep (fun j h => h) (fun z y hy => (List.mem_or_eq_of_mem_set hy).symm) hko (fun z hz => ?_)
            have := ApSays.old (b := b) (K := K) hd k x hk hx hc (by omega) hf
            simpa [List.map_set, hz] using this
    · refine (apply_bad _ oa len cap zs ad w hE hsl (by omega) hcp hm hd).mono ?_
      rintro e w' ⟨rfl, hg⟩
      exact same hg (.inr (.inl ⟨rfl, rfl⟩)) (.bad hz hd)
end Go.Proofs.YtdajcpcajdhplaaDoor
