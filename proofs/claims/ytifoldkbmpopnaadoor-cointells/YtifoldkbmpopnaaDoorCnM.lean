/- Coins in memory. -/
import Derived.Test.YtifoldkbmpopnaaDoorCn
import Derived.Test.YtifoldkbmpopnaaDoorZLk
import Derived.Test.YtifoldkbmpopnaaDoorZTc
import Derived.Test.YtifoldkbmpopnaaDoorTxR
import Derived.Test.YtifoldkbmpopnaaDoorOpenD
namespace Go.Proofs.YtifoldkbmpopnaaDoor
open Go.RowKit Go.Maps
set_option linter.unusedVariables false
set_option linter.unusedSimpArgs false

structure CoinV where
  tx : List Int
  at' : Int
  amount : Int
  lv : Value
  L : List (Lk.Op × Value)
  height : Int
def CoinV.it (x : CoinV) : Cn.Coin := ⟨x.tx, x.at', x.amount, opsOf x.L, x.height⟩
def coinCell (x : CoinV) : List Value := vals x.tx ++ [.int .i64 x.at', .int .i64 x.amount, x.lv, .int .i64 x.height]
def coinCells (R : List CoinV) : List Value := (R.map coinCell).flatten
theorem coinCell_length (x : CoinV) (h : x.tx.length = 32) : (coinCell x).length = 36 := by simp [coinCell, vals_length, h]
/-- What is said of a coin. -/
def CoinOk (w : World) (x : CoinV) : Prop := x.tx.length = 32 ∧ Sz.Byt x.tx ∧ HasOps w x.lv x.L
theorem CoinOk.below {w w' : World} {x : CoinV} (h : CoinOk w x) (hb : Below w.heap.size w w') : CoinOk w' x := ⟨h.1, h.2.1, h.2.2.below hb⟩
def HasCoins (w : World) (v : Value) (R : List CoinV) : Prop :=
  ((∃ a cap, v = .slice a 0 cap ∧ R = []) ∨ ∃ b off cap, v = .slice (some ⟨b, off, none⟩) R.length cap ∧ 0 < R.length ∧ R.length ≤ cap ∧ cap ≤ maxLen ∧ b < w.heap.size ∧ w.rangeAt b off (coinCells R)) ∧
  ∀ x ∈ R, CoinOk w x
theorem HasCoins.below {w w' : World} {v : Value} {R : List CoinV} (h : HasCoins w v R) (hb : Below w.heap.size w w') : HasCoins w' v R := by
  refine ⟨?_, fun x hx => (h.2 x hx).below hb⟩
  rcases h.1 with h | ⟨b, off, cap, hv, h0, h1, h2, h3, hc⟩
  · exact .inl h
  · exact .inr ⟨b, off, cap, hv, h0, h1, h2, Nat.lt_of_lt_of_le h3 hb.size, range_keep hc hb h3⟩
theorem hasOps_slice {w : World} {v : Value} {R : List (Lk.Op × Value)} (h : HasOps w v R) : ∃ a n c, v = .slice a n c := by
  rcases h.1 with ⟨a, c, e, _⟩ | ⟨b, off, c, e, _⟩
  · exact ⟨a, 0, c, e⟩
  · exact ⟨_, _, c, e⟩
theorem size_coin : Sized 43 36 := by unfold Sized; kernel_rfl
theorem size_placeC : Sized 25 33 := by unfold Sized; kernel_rfl
theorem zero_coin (w : World) : (zeroValue 43).run Tryd.prog w = .ok (.agg (vals (List.replicate 32 0) ++ ([.int .i64 0, .int .i64 0, .slice none 0 0, .int .i64 0] : List Value)).toArray) w := by kernel_rfl
theorem coin_ones (x : CoinV) (h : ∃ a n c, x.lv = .slice a n c) : ∀ v ∈ coinCell x, v.oneCell' = true := by
  obtain ⟨a, n, c, e⟩ := h
  intro v hv
  unfold coinCell at hv
  rcases List.mem_append.1 hv with hv | hv
  · exact vals_one _ v hv
  · simp only [List.mem_cons, List.not_mem_nil, or_false] at hv
    rcases hv with rfl | rfl | rfl | rfl
    · rfl
    · rfl
    · rw [e]; rfl
    · rfl
theorem coin_get {x : CoinV} (h : x.tx.length = 32) : (coinCell x)[32]? = some (.int .i64 x.at') ∧ (coinCell x)[33]? = some (.int .i64 x.amount) ∧ (coinCell x)[34]? = some x.lv ∧ (coinCell x)[35]? = some (.int .i64 x.height) := by
  unfold coinCell
  refine ⟨?_, ?_, ?_, ?_⟩ <;> rw [List.getElem?_append_right (by rw [vals_length, h]; omega), vals_length, h] <;> rfl
theorem coin_parts (x : CoinV) : coinCell x = (vals x.tx ++ [.int .i64 x.at']) ++ [.int .i64 x.amount, x.lv, .int .i64 x.height] := by unfold coinCell; simp
/-- Where a coin lies: its place, and the rest. -/
theorem coin_range {w : World} {b o : Nat} {x : CoinV} (h : w.rangeAt b o (coinCell x)) (h32 : x.tx.length = 32) :
    w.rangeAt b o (vals x.tx ++ [.int .i64 x.at']) ∧ w.cell? ⟨b, o + 32, none⟩ = some (.int .i64 x.at') ∧ w.cell? ⟨b, o + 33, none⟩ = some (.int .i64 x.amount) ∧ w.cell? ⟨b, o + 34, none⟩ = some x.lv ∧ w.cell? ⟨b, o + 35, none⟩ = some (.int .i64 x.height) := by
  obtain ⟨g1, g2, g3, g4⟩ := coin_get h32
  refine ⟨?_, h 32 _ g1, h 33 _ g2, h 34 _ g3, h 35 _ g4⟩
  rw [coin_parts] at h
  exact (tx_range_part h).1
theorem coins_form {w : World} {v : Value} {R : List CoinV} (h : HasCoins w v R) : ∃ a cap, v = .slice a R.length cap ∧ R.length ≤ maxLen ∧ ∀ k (hk : k < R.length), ∃ b off, a = some ⟨b, off, none⟩ ∧ R.length ≤ cap ∧ cap ≤ maxLen ∧ b < w.heap.size ∧ w.rangeAt b (off + k * 36) (coinCell R[k]) := by
  rcases h.1 with ⟨a, cap, rfl, rfl⟩ | ⟨b, off, cap, rfl, h0, h1, h2, h3, hc⟩
  · exact ⟨a, cap, rfl, by simp, fun k hk => absurd hk (by simp)⟩
  · exact ⟨_, cap, rfl, by omega, fun k hk => ⟨b, off, rfl, h1, h2, h3, range_at hc (fun x hx => coinCell_length x (h.2 x hx).1) k hk⟩⟩
end Go.Proofs.YtifoldkbmpopnaaDoor
