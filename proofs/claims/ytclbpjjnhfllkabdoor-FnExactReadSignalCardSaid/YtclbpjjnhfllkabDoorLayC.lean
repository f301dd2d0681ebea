/- The layings, under one more name. -/
import Derived.Test.YtclbpjjnhfllkabDoorLays
